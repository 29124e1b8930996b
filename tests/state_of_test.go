package tests

import (
	"slices"
	"testing"

	"loop.example/g00366/impl"
)

// whole: a run of loops from its start to its end.
func whole() []impl.Event {
	return []impl.Event{
		ev(5, impl.EvStart, ""),
		ev(5, impl.EvEnter, "b"),
		setting(6, "who", "me"),
		ev(7, impl.EvFault, "b"),
		ev(9, impl.EvLeave, "b"),
		setting(9, "who", "you"),
		ev(10, impl.EvEnter, "c"),
		ev(12, impl.EvFault, "c"),
		ev(15, impl.EvLeave, "c"),
		setting(15, "how", ""),
		ev(20, impl.EvEnd, ""),
	}
}

// sets: a start, and behind it so many events that all are so many.
func sets(size int) []impl.Event {
	out := []impl.Event{ev(1, impl.EvStart, "")}
	for i := 1; i < size; i++ {
		out = append(out, setting(int64(i), "n", filled(i%41)))
	}
	return out
}

func TestStateOfNoEvents(t *testing.T) {
	for _, d := range shapes() {
		wantState(t, "none", impl.StateOf(d, nil), impl.StateOut{})
		wantState(t, "an empty list", impl.StateOf(d, []impl.Event{}), impl.StateOut{})
	}
}

func TestStateOfAWholeRun(t *testing.T) {
	behind := []impl.State{
		{},
		{Status: impl.StRunning, Begun: 5, Last: 5, Wait: []string{"b"}},
		{Status: impl.StRunning, Begun: 5, Last: 5, Busy: []string{"b"}},
		{Status: impl.StRunning, Begun: 5, Last: 6, Busy: []string{"b"}, Vars: []impl.Var{{Name: "who", Value: "me"}}},
		{Status: impl.StRunning, Begun: 5, Last: 7, Busy: []string{"b"}, Vars: []impl.Var{{Name: "who", Value: "me"}}, Faults: 1},
		{Status: impl.StRunning, Begun: 5, Last: 9, Wait: []string{"c"}, Vars: []impl.Var{{Name: "who", Value: "me"}}, Faults: 1},
		{Status: impl.StRunning, Begun: 5, Last: 9, Wait: []string{"c"}, Vars: []impl.Var{{Name: "who", Value: "you"}}, Faults: 1},
		{Status: impl.StRunning, Begun: 5, Last: 10, Busy: []string{"c"}, Vars: []impl.Var{{Name: "who", Value: "you"}}, Faults: 1},
		{Status: impl.StRunning, Begun: 5, Last: 12, Busy: []string{"c"}, Vars: []impl.Var{{Name: "who", Value: "you"}}, Faults: 2},
		{Status: impl.StRunning, Begun: 5, Last: 15, Vars: []impl.Var{{Name: "who", Value: "you"}}, Faults: 2},
		{Status: impl.StRunning, Begun: 5, Last: 15, Vars: []impl.Var{{Name: "how"}, {Name: "who", Value: "you"}}, Faults: 2},
		{Status: impl.StEnded, Begun: 5, Last: 20, Vars: []impl.Var{{Name: "how"}, {Name: "who", Value: "you"}}, Faults: 2},
	}
	for i, want := range behind {
		wantState(t, "so far", impl.StateOf(loops(), whole()[:i]), impl.StateOut{State: want})
	}
}

func TestStateOfGoesByNeitherSeqNorRun(t *testing.T) {
	l := whole()
	for i := range l {
		l[i].Seq = int64(impl.MaxTime - i)
		l[i].Run = int64(1 + i%3)
	}
	wantState(t, "other Seqs and Runs", impl.StateOf(loops(), l), impl.StateOf(loops(), whole()))
	wantCode(t, "other Seqs and Runs", impl.StateOf(loops(), l), impl.OK)
}

func TestStateOfTellsTheFirstCode(t *testing.T) {
	broken := map[int64]impl.Event{
		impl.ErrForm:  ev(30, impl.EvEnter, "B"),
		impl.ErrState: ev(30, impl.EvStart, ""),
		impl.ErrRange: ev(4, impl.EvFault, "b"),
		impl.ErrNone:  ev(30, impl.EvLeave, "a"),
	}
	for code, e := range broken {
		for _, next := range broken {
			for place := 1; place < len(whole())-1; place++ {
				l := slices.Concat(whole()[:place], []impl.Event{e, next}, whole()[place:])
				wantCode(t, "one that may not happen", impl.StateOf(loops(), l), code)
			}
		}
		wantCode(t, "at the end", impl.StateOf(loops(), append(whole()[:4], e)), code)
	}
	wantCode(t, "no start", impl.StateOf(loops(), whole()[1:]), impl.ErrState)
	wantCode(t, "two starts", impl.StateOf(loops(), append(whole()[:1], whole()...)), impl.ErrState)
	wantCode(t, "behind the end", impl.StateOf(loops(), append(whole(), whole()...)), impl.ErrState)
	wantCode(t, "a wrong one at first", impl.StateOf(loops(), []impl.Event{{}}), impl.ErrForm)
}

func TestStateOfTellsErrFull(t *testing.T) {
	l := []impl.Event{ev(0, impl.EvStart, "")}
	twice := impl.Def{Steps: []string{"a", "b"}, Flows: flows("a a", "a b")}
	for range 39 {
		l = append(l, ev(1, impl.EvEnter, "a"), ev(1, impl.EvLeave, "a"))
	}
	full := impl.State{Status: impl.StRunning, Last: 1, Wait: append([]string{"a"}, slices.Repeat([]string{"b"}, 39)...)}
	wantState(t, "40 marks", impl.StateOf(twice, l), impl.StateOut{State: full})
	l = append(l, ev(1, impl.EvEnter, "a"), ev(1, impl.EvLeave, "a"), ev(1, impl.EvEnter, "B"))
	wantCode(t, "41 marks", impl.StateOf(twice, l), impl.ErrFull)
	l = []impl.Event{ev(0, impl.EvStart, "")}
	for _, v := range someVars(21) {
		l = append(l, setting(2, v.Name, v.Value))
	}
	wantState(t, "20 Vars", impl.StateOf(twice, l[:21]), impl.StateOut{State: impl.State{Status: impl.StRunning, Last: 2, Wait: []string{"a"}, Vars: someVars(20)}})
	wantCode(t, "21 Vars", impl.StateOf(twice, l), impl.ErrFull)
}

func TestStateOfTooMany(t *testing.T) {
	for _, size := range []int{1, 2, impl.MaxEvents - 1, impl.MaxEvents} {
		want := impl.State{Status: impl.StRunning, Begun: 1, Last: max(int64(size)-1, 1), Wait: []string{"b"}}
		if size > 1 {
			want.Vars = []impl.Var{{Name: "n", Value: filled((size - 1) % 41)}}
		}
		wantState(t, "so many", impl.StateOf(loops(), sets(size)), impl.StateOut{State: want})
	}
	for _, size := range []int{impl.MaxEvents + 1, impl.MaxList - 1, impl.MaxList} {
		wantCode(t, "more than MaxEvents", impl.StateOf(loops(), sets(size)), impl.ErrForm)
		wantCode(t, "more than MaxEvents, all wrong", impl.StateOf(loops(), sets(size + 1)[1:]), impl.ErrForm)
	}
	for _, size := range []int{impl.MaxList + 1, impl.MaxList + 2, 5000} {
		wantCode(t, "more than MaxList", impl.StateOf(loops(), sets(size)), impl.ErrSize)
		wantCode(t, "more than MaxList, all wrong", impl.StateOf(loops(), make([]impl.Event, size)), impl.ErrSize)
	}
}

func TestStateOfWrongDefs(t *testing.T) {
	for what, d := range wrongDefs() {
		wantCode(t, what, impl.StateOf(d, nil), impl.ErrForm)
		wantCode(t, what, impl.StateOf(d, whole()), impl.ErrForm)
		wantCode(t, what, impl.StateOf(d, whole()[1:]), impl.ErrForm)
		wantCode(t, what, impl.StateOf(d, sets(impl.MaxList)), impl.ErrForm)
		wantCode(t, what, impl.StateOf(d, sets(impl.MaxList+1)), impl.ErrSize)
	}
}

func TestStateOfLeavesWhatItIsGiven(t *testing.T) {
	d, l := copiedDef(loops()), whole()
	got := impl.StateOf(d, l)
	if !slices.Equal(l, whole()) || !slices.Equal(d.Steps, loops().Steps) || !slices.Equal(d.Flows, loops().Flows) {
		t.Error("StateOf changed what it was given")
	}
	given := slices.Clone(d.Steps)
	for _, e := range l {
		given = append(given, e.Step, e.Value)
	}
	wantOwnTexts(t, got.State, given)
	wantOwnTexts(t, impl.StateOf(d, l[:7]).State, given)
	wantOwnTexts(t, impl.StateOf(d, l[:6]).State, given)
	clear(l)
	wantState(t, "behind a change of what was given", got, impl.StateOf(loops(), whole()))
}
