package tests

import (
	"math"
	"slices"
	"strings"
	"testing"

	"loop.example/g00366/impl"
)

// waits: a running State of loops with these marks, at the time 20.
func waits(wait []string, busy []string) impl.State {
	return impl.State{Status: impl.StRunning, Begun: 10, Last: 20, Wait: wait, Busy: busy}
}

// step: one event, and how the State stands behind it, or its code.
type step struct {
	what  string
	state impl.State
	event impl.Event
	want  impl.State
	code  int64
}

func wantSteps(t *testing.T, d impl.Def, steps []step) {
	t.Helper()
	for _, x := range steps {
		if x.code != impl.OK {
			wantCode(t, x.what, impl.StateStep(d, x.state, x.event), x.code)
			continue
		}
		wantState(t, x.what, impl.StateStep(d, x.state, x.event), impl.StateOut{State: x.want})
	}
}

func TestStateStepStart(t *testing.T) {
	for _, time := range []int64{0, 1, 7, impl.MaxTime} {
		want := impl.State{Status: impl.StRunning, Begun: time, Last: time, Wait: []string{"b"}}
		wantState(t, "start", impl.StateStep(loops(), impl.State{}, ev(time, impl.EvStart, "")), impl.StateOut{State: want})
		empty := impl.State{Wait: []string{}, Busy: []string{}, Vars: []impl.Var{}}
		wantState(t, "start of empty lists", impl.StateStep(loops(), empty, ev(time, impl.EvStart, "")), impl.StateOut{State: want})
	}
}

func TestStateStepEnter(t *testing.T) {
	at := func(time int64, wait []string, busy []string) impl.State {
		s := waits(wait, busy)
		s.Last = time
		return s
	}
	enter := ev(21, impl.EvEnter, "b")
	wantSteps(t, loops(), []step{
		{"no mark at all", waits(nil, nil), enter, impl.State{}, impl.ErrNone},
		{"marks elsewhere", waits([]string{"a", "c"}, nil), enter, impl.State{}, impl.ErrNone},
		{"a mark in Busy alone", waits([]string{"a"}, []string{"b", "b"}), enter, impl.State{}, impl.ErrNone},
		{"no step of the Def", waits([]string{"a"}, nil), ev(21, impl.EvEnter, "d"), impl.State{}, impl.ErrNone},
		{"one mark", waits([]string{"b"}, nil), enter, at(21, nil, []string{"b"}), impl.OK},
		{"one among others", waits([]string{"a", "b", "c"}, []string{"a", "c"}), enter, at(21, []string{"a", "c"}, []string{"a", "b", "c"}), impl.OK},
		{"one of several", waits([]string{"b", "b", "b"}, []string{"b"}), enter, at(21, []string{"b", "b"}, []string{"b", "b"}), impl.OK},
		{"at its Last", waits([]string{"b"}, nil), ev(20, impl.EvEnter, "b"), at(20, nil, []string{"b"}), impl.OK},
		{"at MaxTime", waits([]string{"b"}, nil), ev(impl.MaxTime, impl.EvEnter, "b"), at(impl.MaxTime, nil, []string{"b"}), impl.OK},
		{"at 40 marks", waits(slices.Repeat([]string{"b"}, 40), nil), enter, at(21, slices.Repeat([]string{"b"}, 39), []string{"b"}), impl.OK},
	})
}

func TestStateStepLeave(t *testing.T) {
	at := func(wait []string, busy []string) impl.State {
		s := waits(wait, busy)
		s.Last = 21
		return s
	}
	leave := func(step string) impl.Event { return ev(21, impl.EvLeave, step) }
	wantSteps(t, loops(), []step{
		{"no mark at all", waits(nil, nil), leave("a"), impl.State{}, impl.ErrNone},
		{"marks elsewhere", waits(nil, []string{"b", "c"}), leave("a"), impl.State{}, impl.ErrNone},
		{"a mark in Wait alone", waits([]string{"a", "a"}, []string{"b"}), leave("a"), impl.State{}, impl.ErrNone},
		{"no step of the Def", waits(nil, []string{"a"}), leave("d"), impl.State{}, impl.ErrNone},
		{"no flow", waits(nil, []string{"c"}), leave("c"), at(nil, nil), impl.OK},
		{"no flow, one of several", waits([]string{"c"}, []string{"c", "c"}), leave("c"), at([]string{"c"}, []string{"c"}), impl.OK},
		{"one flow", waits(nil, []string{"b"}), leave("b"), at([]string{"c"}, nil), impl.OK},
		{"one flow to where marks are", waits([]string{"b", "c"}, []string{"b", "c"}), leave("b"), at([]string{"b", "c", "c"}, []string{"c"}), impl.OK},
		{"several flows, one back", waits(nil, []string{"a"}), leave("a"), at([]string{"a", "b", "c"}, nil), impl.OK},
		{"several flows, one of several", waits([]string{"b"}, []string{"a", "a"}), leave("a"), at([]string{"a", "b", "b", "c"}, []string{"a"}), impl.OK},
	})
}

func TestStateStepLeaveAtManyMarks(t *testing.T) {
	flowsFrom := map[string]int{"a": 3, "b": 1, "c": 0}
	for name, goes := range flowsFrom {
		for _, all := range []int{36, 37, 38, 39, 40} {
			for _, busy := range []int{1, 2, all / 2, all} {
				s := waits(slices.Repeat([]string{"c"}, all-busy), slices.Repeat([]string{name}, busy))
				got := impl.StateStep(loops(), s, ev(20, impl.EvLeave, name))
				if all-1+goes > 40 {
					wantCode(t, "more than 40", got, impl.ErrFull)
					continue
				}
				wantCode(t, "at most 40", got, impl.OK)
				if have := len(got.State.Wait) + len(got.State.Busy); have != all-1+goes {
					t.Errorf("leaving %s at %d marks: got %d, want %d", name, all, have, all-1+goes)
				}
			}
		}
	}
}

func TestStateStepLeaveBringsAtMostFortyAtOnce(t *testing.T) {
	wide := impl.Def{Steps: stepNames(impl.MaxSteps), Flows: manyFlows(stepNames(impl.MaxSteps), 40)}
	first := wide.Steps[0]
	for _, others := range []int{0, 1, 27, 28, 29, 39} {
		s := waits(nil, slices.Repeat([]string{first}, 1+others))
		got := impl.StateStep(wide, s, ev(20, impl.EvLeave, first))
		if others+12 > 40 {
			wantCode(t, "twelve more", got, impl.ErrFull)
			continue
		}
		want := waits(ordered(slices.Clone(wide.Steps)...), slices.Repeat([]string{first}, others))
		wantState(t, "twelve more", got, impl.StateOut{State: want})
	}
}

func TestStateStepSet(t *testing.T) {
	with := func(time int64, vars []impl.Var) impl.State {
		s := standing()
		s.Last, s.Vars = time, vars
		return s
	}
	two := named("f", "m")
	wantSteps(t, loops(), []step{
		{"the first Var", with(20, nil), setting(21, "x", "y"), with(21, []impl.Var{{Name: "x", Value: "y"}}), impl.OK},
		{"no Value", with(20, nil), setting(21, "x", ""), with(21, []impl.Var{{Name: "x"}}), impl.OK},
		{"a step's name", with(20, nil), setting(21, "a", "y"), with(21, []impl.Var{{Name: "a", Value: "y"}}), impl.OK},
		{"ahead of all", with(20, two), setting(21, "a", "v"), with(21, named("a", "f", "m")), impl.OK},
		{"between", with(20, two), setting(21, "ff", "v"), with(21, named("f", "ff", "m")), impl.OK},
		{"behind all", with(20, two), setting(21, "z", "v"), with(21, named("f", "m", "z")), impl.OK},
		{"the first one anew", with(20, two), setting(20, "f", "w"), with(20, []impl.Var{{Name: "f", Value: "w"}, {Name: "m", Value: "v"}}), impl.OK},
		{"the last one anew", with(20, two), setting(20, "m", ""), with(20, []impl.Var{{Name: "f", Value: "v"}, {Name: "m"}}), impl.OK},
		{"a Value of 40 bytes", with(20, nil), setting(21, "x", filled(40)), with(21, []impl.Var{{Name: "x", Value: filled(40)}}), impl.OK},
		{"a Value of 41 bytes", with(20, nil), setting(21, "x", filled(41)), impl.State{}, impl.ErrForm},
	})
}

func TestStateStepSetAtManyVars(t *testing.T) {
	for _, size := range []int{18, 19, 20} {
		s := standing()
		s.Vars = someVars(size)
		for _, name := range []string{"a", "vab", "vz"} {
			got := impl.StateStep(loops(), s, setting(20, name, "new"))
			if size == 20 {
				wantCode(t, "a new name at 20", got, impl.ErrFull)
				continue
			}
			want := append(someVars(size), impl.Var{Name: name, Value: "new"})
			slices.SortFunc(want, func(a impl.Var, b impl.Var) int { return strings.Compare(a.Name, b.Name) })
			wantState(t, "a new name", got, impl.StateOut{State: altered(s, func(s *impl.State) { s.Vars = want })})
		}
		for i, v := range s.Vars {
			got := impl.StateStep(loops(), s, setting(20, v.Name, "new"))
			want := impl.StateOut{State: altered(s, func(s *impl.State) { s.Vars[i].Value = "new" })}
			wantState(t, "one that is there", got, want)
		}
	}
}

func TestStateStepFault(t *testing.T) {
	with := func(time int64, busy []string, faults int64) impl.State {
		s := waits([]string{"a", "c"}, busy)
		s.Last, s.Faults = time, faults
		return s
	}
	fault := ev(21, impl.EvFault, "a")
	wantSteps(t, loops(), []step{
		{"no mark in Busy", with(20, nil, 0), fault, impl.State{}, impl.ErrNone},
		{"marks elsewhere", with(20, []string{"b", "c"}, 0), fault, impl.State{}, impl.ErrNone},
		{"no step of the Def", with(20, []string{"a"}, 0), ev(21, impl.EvFault, "d"), impl.State{}, impl.ErrNone},
		{"one mark", with(20, []string{"a"}, 0), fault, with(21, []string{"a"}, 1), impl.OK},
		{"several marks", with(20, []string{"a", "a", "b"}, 5), fault, with(21, []string{"a", "a", "b"}, 6), impl.OK},
		{"up to MaxTime", with(20, []string{"a"}, impl.MaxTime-1), fault, with(21, []string{"a"}, impl.MaxTime), impl.OK},
		{"above MaxTime", with(20, []string{"a"}, impl.MaxTime), fault, impl.State{}, impl.ErrFull},
	})
}

func TestStateStepEnd(t *testing.T) {
	end := ev(21, impl.EvEnd, "")
	left := over()
	left.Status = impl.StRunning
	ended := over()
	ended.Last = 21
	wantSteps(t, loops(), []step{
		{"no mark", left, end, ended, impl.OK},
		{"nothing but Status", impl.State{Status: impl.StRunning}, ev(0, impl.EvEnd, ""), impl.State{Status: impl.StEnded}, impl.OK},
		{"a mark in Wait", waits([]string{"a"}, nil), end, impl.State{}, impl.ErrState},
		{"a mark in Busy", waits(nil, []string{"a"}), end, impl.State{}, impl.ErrState},
		{"marks in both", standing(), end, impl.State{}, impl.ErrState},
	})
}

func TestStateStepByStatus(t *testing.T) {
	for _, e := range []impl.Event{ev(30, impl.EvEnter, "b"), ev(30, impl.EvLeave, "b"), setting(30, "n", "v"), ev(30, impl.EvFault, "b"), ev(30, impl.EvEnd, "")} {
		wantCode(t, "ahead of the start", impl.StateStep(loops(), impl.State{}, e), impl.ErrState)
		wantCode(t, "behind the end", impl.StateStep(loops(), over(), e), impl.ErrState)
	}
	wantCode(t, "a start of what runs", impl.StateStep(loops(), standing(), ev(30, impl.EvStart, "")), impl.ErrState)
	wantCode(t, "a start of what runs without a mark", impl.StateStep(loops(), waits(nil, nil), ev(30, impl.EvStart, "")), impl.ErrState)
	wantCode(t, "a start of what has ended", impl.StateStep(loops(), over(), ev(30, impl.EvStart, "")), impl.ErrState)
}

// fitting: an event of each kind that may happen to standing from its Last on.
func fitting(time int64) []impl.Event {
	return []impl.Event{ev(time, impl.EvEnter, "b"), ev(time, impl.EvLeave, "c"), setting(time, "n", "v"), ev(time, impl.EvFault, "a")}
}

func TestStateStepByTime(t *testing.T) {
	for _, time := range []int64{0, 9, 10, 19, 20, 21, impl.MaxTime} {
		for _, e := range fitting(time) {
			got := impl.StateStep(loops(), standing(), e)
			if time < 20 {
				wantCode(t, "a time below Last", got, impl.ErrRange)
				continue
			}
			wantCode(t, "a time from Last on", got, impl.OK)
			if got.State.Last != time || got.State.Begun != 10 {
				t.Errorf("at %d: got Begun %d, Last %d", time, got.State.Begun, got.State.Last)
			}
		}
	}
	wantCode(t, "an end below Last", impl.StateStep(loops(), waits(nil, nil), ev(19, impl.EvEnd, "")), impl.ErrRange)
}

func TestStateStepNamesTheFirstFault(t *testing.T) {
	forty := waits(slices.Repeat([]string{"c"}, 39), []string{"b"})
	worn := standing()
	worn.Faults = impl.MaxTime
	filledUp := standing()
	filledUp.Vars = someVars(20)
	wantSteps(t, loops(), []step{
		{"a wrong event, ahead of Status", over(), ev(30, 7, ""), impl.State{}, impl.ErrForm},
		{"a wrong event, ahead of the start", impl.State{}, ev(30, impl.EvEnter, "B"), impl.State{}, impl.ErrForm},
		{"a wrong time, ahead of Last", standing(), ev(-1, impl.EvEnter, "b"), impl.State{}, impl.ErrForm},
		{"a wrong State, ahead of Status", impl.State{Begun: 1}, ev(30, impl.EvEnd, ""), impl.State{}, impl.ErrForm},
		{"a wrong State, ahead of its time", altered(standing(), func(s *impl.State) { s.Wait = []string{"d"} }), ev(1, impl.EvEnter, "b"), impl.State{}, impl.ErrForm},
		{"Status, ahead of the time", over(), ev(1, impl.EvEnter, "b"), impl.State{}, impl.ErrState},
		{"a second start, ahead of the time", standing(), ev(1, impl.EvStart, ""), impl.State{}, impl.ErrState},
		{"the time, ahead of a mark in Wait", waits(nil, nil), ev(19, impl.EvEnter, "b"), impl.State{}, impl.ErrRange},
		{"the time, ahead of a mark in Busy", waits(nil, nil), ev(19, impl.EvLeave, "b"), impl.State{}, impl.ErrRange},
		{"the time, ahead of a fault's mark", waits(nil, nil), ev(19, impl.EvFault, "b"), impl.State{}, impl.ErrRange},
		{"the time, ahead of too many marks", altered(forty, func(s *impl.State) { s.Busy = []string{"a"} }), ev(19, impl.EvLeave, "a"), impl.State{}, impl.ErrRange},
		{"the time, ahead of too many Vars", filledUp, setting(19, "new", ""), impl.State{}, impl.ErrRange},
		{"the time, ahead of too many Faults", worn, ev(19, impl.EvFault, "a"), impl.State{}, impl.ErrRange},
		{"the time, ahead of marks at the end", standing(), ev(19, impl.EvEnd, ""), impl.State{}, impl.ErrRange},
		{"the mark, ahead of too many marks", forty, ev(20, impl.EvLeave, "a"), impl.State{}, impl.ErrNone},
		{"the mark, ahead of too many Faults", worn, ev(20, impl.EvFault, "b"), impl.State{}, impl.ErrNone},
	})
}

func TestStateStepOfWrongThings(t *testing.T) {
	for what, d := range wrongDefs() {
		wantCode(t, what, impl.StateStep(d, impl.State{}, ev(1, impl.EvStart, "")), impl.ErrForm)
		wantCode(t, what, impl.StateStep(d, standing(), ev(20, impl.EvEnter, "b")), impl.ErrForm)
		wantCode(t, what, impl.StateStep(d, impl.State{Begun: 1}, impl.Event{}), impl.ErrForm)
	}
	for _, x := range allEdges() {
		if !x.right {
			wantCode(t, x.what, impl.StateStep(loops(), standing(), x.event), impl.ErrForm)
			wantCode(t, x.what, impl.StateStep(loops(), impl.State{}, x.event), impl.ErrForm)
		}
	}
	wrong := []impl.State{
		altered(standing(), func(s *impl.State) { s.Status = 3 }),
		altered(standing(), func(s *impl.State) { s.Status = impl.StNone }),
		altered(standing(), func(s *impl.State) { s.Status = impl.StEnded }),
		altered(standing(), func(s *impl.State) { s.Last = 9 }),
		altered(standing(), func(s *impl.State) { s.Begun = -1 }),
		altered(standing(), func(s *impl.State) { s.Wait = []string{"b", "a"} }),
		altered(standing(), func(s *impl.State) { s.Busy = slices.Repeat([]string{"b"}, 38) }),
		altered(standing(), func(s *impl.State) { s.Busy = slices.Repeat([]string{"b"}, impl.MaxList+1) }),
		altered(standing(), func(s *impl.State) { s.Vars = named("b", "a") }),
		altered(standing(), func(s *impl.State) { s.Faults = math.MaxInt64 }),
	}
	for _, s := range wrong {
		for _, e := range append(fitting(30), ev(30, impl.EvStart, ""), ev(30, impl.EvEnd, "")) {
			wantCode(t, "a wrong State", impl.StateStep(loops(), s, e), impl.ErrForm)
		}
	}
}
