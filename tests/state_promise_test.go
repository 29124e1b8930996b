package tests

import (
	"math/rand"
	"slices"
	"strings"
	"testing"

	"loop.example/g00366/impl"
)

// goesFrom: how many Flows go from that step.
func goesFrom(d impl.Def, step string) int {
	out := 0
	for _, f := range d.Flows {
		if f.From == step {
			out++
		}
	}
	return out
}

// without: the list without one such item, which it has.
func without(l []string, step string) []string {
	at := slices.Index(l, step)
	return slices.Concat(l[:at], l[at+1:])
}

// expected: what the document says of a right event on a right State, told on lists.
func expected(d impl.Def, s impl.State, e impl.Event) impl.StateOut {
	refuse := func(code int64) impl.StateOut { return impl.StateOut{Code: code} }
	s = copied(s)
	switch {
	case e.Kind != impl.EvStart && s.Status != impl.StRunning, e.Kind == impl.EvStart && s.Status != impl.StNone:
		return refuse(impl.ErrState)
	case e.Time < s.Last:
		return refuse(impl.ErrRange)
	case e.Kind == impl.EvEnter && !slices.Contains(s.Wait, e.Step):
		return refuse(impl.ErrNone)
	case (e.Kind == impl.EvLeave || e.Kind == impl.EvFault) && !slices.Contains(s.Busy, e.Step):
		return refuse(impl.ErrNone)
	case e.Kind == impl.EvLeave && len(s.Wait)+len(s.Busy)-1+goesFrom(d, e.Step) > 40:
		return refuse(impl.ErrFull)
	case e.Kind == impl.EvFault && s.Faults == impl.MaxTime:
		return refuse(impl.ErrFull)
	case e.Kind == impl.EvEnd && len(s.Wait)+len(s.Busy) > 0:
		return refuse(impl.ErrState)
	}
	s.Last = e.Time
	switch e.Kind {
	case impl.EvStart:
		s.Status, s.Begun, s.Wait = impl.StRunning, e.Time, []string{d.Steps[0]}
	case impl.EvEnter:
		s.Wait, s.Busy = without(s.Wait, e.Step), ordered(append(s.Busy, e.Step)...)
	case impl.EvLeave:
		s.Busy = without(s.Busy, e.Step)
		for _, f := range d.Flows {
			if f.From == e.Step {
				s.Wait = ordered(append(s.Wait, f.To)...)
			}
		}
	case impl.EvSet:
		s.Vars = slices.DeleteFunc(s.Vars, func(v impl.Var) bool { return v.Name == e.Step })
		s.Vars = append(s.Vars, impl.Var{Name: e.Step, Value: e.Value})
		slices.SortFunc(s.Vars, func(a impl.Var, b impl.Var) int { return strings.Compare(a.Name, b.Name) })
		if len(s.Vars) > 20 {
			return refuse(impl.ErrFull)
		}
	case impl.EvFault:
		s.Faults++
	case impl.EvEnd:
		s.Status = impl.StEnded
	}
	return impl.StateOut{State: s}
}

// wantPromise: of an event that happened, what promise 4 says of it.
func wantPromise(t *testing.T, d impl.Def, before impl.State, e impl.Event, behind impl.State) {
	t.Helper()
	if !impl.StateRight(d, behind) {
		t.Errorf("%+v on %+v: got %+v, which is not right", e, before, behind)
	}
	if behind.Last != e.Time {
		t.Errorf("%+v on %+v: got Last %d", e, before, behind.Last)
	}
	brings := 0
	switch e.Kind {
	case impl.EvStart:
		brings = 1
	case impl.EvLeave:
		brings = goesFrom(d, e.Step) - 1
	}
	had, has := len(before.Wait)+len(before.Busy), len(behind.Wait)+len(behind.Busy)
	if has != had+brings {
		t.Errorf("%+v on %+v: got %d marks, want %d", e, before, has, had+brings)
	}
}

func TestStateStepAsTheDocumentSays(t *testing.T) {
	source := rand.New(rand.NewSource(44))
	happened := map[int64]int{}
	for _, d := range shapes() {
		for range 80 {
			s := someState(source, d)
			for _, time := range []int64{max(s.Last-1, 0), s.Last, min(s.Last+1, impl.MaxTime), impl.MaxTime} {
				for _, e := range eventsAt(d, time) {
					want := impl.StateOut{Code: impl.ErrForm}
					if impl.EventRight(e) {
						want = expected(d, s, e)
					}
					got := impl.StateStep(d, s, e)
					wantState(t, "an event on one of many", got, want)
					if got.Code == impl.OK {
						happened[e.Kind]++
						wantPromise(t, d, s, e, got.State)
					}
				}
			}
		}
	}
	for kind := int64(impl.EvStart); kind <= impl.EvEnd; kind++ {
		if happened[kind] < 20 {
			t.Errorf("%d events of the kind %s happened, which is too few to tell", happened[kind], impl.KindText(kind))
		}
	}
}

// someRun: that many events that may happen one behind the other from the zero State on, and how it stands behind them.
func someRun(source *rand.Rand, d impl.Def, size int) ([]impl.Event, impl.State) {
	var out []impl.Event
	var s impl.State
	for range size {
		var may []impl.Event
		var behind []impl.State
		for _, e := range eventsAt(d, min(s.Last+int64(source.Intn(3)), impl.MaxTime)) {
			if x := expected(d, s, e); impl.EventRight(e) && x.Code == impl.OK {
				may, behind = append(may, e), append(behind, x.State)
			}
		}
		if len(may) == 0 {
			return out, s
		}
		at := source.Intn(len(may))
		out, s = append(out, may[at]), behind[at]
	}
	return out, s
}

func TestStateOfRunsOfManyShapes(t *testing.T) {
	source := rand.New(rand.NewSource(45))
	for _, d := range shapes() {
		for range 12 {
			l, want := someRun(source, d, 1+source.Intn(impl.MaxEvents))
			wantState(t, "a run", impl.StateOf(d, l), impl.StateOut{State: want})
			var s impl.State
			for _, e := range l {
				behind := impl.StateStep(d, s, e)
				wantCode(t, "an event of a run", behind, impl.OK)
				wantPromise(t, d, s, e, behind.State)
				s = behind.State
			}
			wantState(t, "a run event by event", impl.StateOut{State: s}, impl.StateOut{State: want})
		}
	}
}

// overwritten: every place of the State's lists, and of the room behind them, has something else.
func overwritten(s impl.State) {
	for _, l := range [][]string{s.Wait[:cap(s.Wait)], s.Busy[:cap(s.Busy)]} {
		for i := range l {
			l[i] = "overwritten"
		}
	}
	vars := s.Vars[:cap(s.Vars)]
	for i := range vars {
		vars[i] = impl.Var{Name: "overwritten", Value: "overwritten"}
	}
}

// textsOf: all texts of a State.
func textsOf(s impl.State) []string {
	out := slices.Concat(s.Wait, s.Busy)
	for _, v := range s.Vars {
		out = append(out, v.Name, v.Value)
	}
	return out
}

// wantOwnTexts: no text of the State lies in memory of one of these.
func wantOwnTexts(t *testing.T, s impl.State, given []string) {
	t.Helper()
	for _, text := range textsOf(s) {
		for _, other := range given {
			if sharesMemory(text, other) {
				t.Errorf("the text %q is that of an argument", text)
			}
		}
	}
}

func TestStateStepLeavesWhatItIsGiven(t *testing.T) {
	before := standing()
	for _, e := range slices.Concat(fitting(30), fitting(19), eventsAt(loops(), 30)) {
		d, s := copiedDef(loops()), copied(standing())
		got := impl.StateStep(d, s, e)
		if !sameState(s, before) || !slices.Equal(d.Steps, loops().Steps) || !slices.Equal(d.Flows, loops().Flows) {
			t.Errorf("%+v: changed what was given: %+v, %+v", e, d, s)
		}
		for _, text := range textsOf(impl.State{Wait: s.Wait[:cap(s.Wait)][len(s.Wait):], Busy: s.Busy[:cap(s.Busy)][len(s.Busy):], Vars: s.Vars[:cap(s.Vars)][len(s.Vars):]}) {
			if text != "" {
				t.Errorf("%+v: wrote %q behind a list that was given", e, text)
			}
		}
		wantOwnTexts(t, got.State, append(slices.Concat(d.Steps, textsOf(s)), e.Step, e.Value))
	}
}

func TestStateStepAnswersInNewMemory(t *testing.T) {
	for _, e := range append(fitting(30), setting(30, "new", "v")) {
		d, s := copiedDef(loops()), copied(standing())
		got := impl.StateStep(d, s, e)
		want := copied(got.State)
		overwritten(s)
		for i := range d.Steps {
			d.Steps[i] = "overwritten"
		}
		wantState(t, "behind a change of what was given", got, impl.StateOut{State: want})
		again := impl.StateStep(loops(), standing(), e)
		overwritten(impl.State{Wait: again.State.Wait})
		again.State.Wait = want.Wait
		wantState(t, "behind a change of Wait", again, impl.StateOut{State: want})
		overwritten(impl.State{Busy: again.State.Busy})
		again.State.Busy = want.Busy
		wantState(t, "behind a change of Busy", again, impl.StateOut{State: want})
	}
}
