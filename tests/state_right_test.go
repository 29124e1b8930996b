package tests

import (
	"math"
	"math/rand"
	"slices"
	"strings"
	"testing"

	"loop.example/g00366/impl"
)

// standing: a right State of loops in which each part may be altered.
func standing() impl.State {
	return impl.State{
		Status: impl.StRunning,
		Begun:  10,
		Last:   20,
		Wait:   []string{"a", "b", "b"},
		Busy:   []string{"a", "c"},
		Vars:   []impl.Var{{Name: "n", Value: "1"}, {Name: "n1", Value: ""}, {Name: "o", Value: "1"}},
		Faults: 3,
	}
}

// over: a right State of StEnded.
func over() impl.State {
	s := standing()
	s.Status, s.Wait, s.Busy = impl.StEnded, nil, nil
	return s
}

func wantRight(t *testing.T, what string, d impl.Def, s impl.State, want bool) {
	t.Helper()
	if got := impl.StateRight(d, s); got != want {
		t.Errorf("%s: StateRight of %+v: got %t, want %t", what, s, got, want)
	}
}

func TestStateRightOfManyShapes(t *testing.T) {
	source := rand.New(rand.NewSource(4))
	for _, d := range shapes() {
		for range 60 {
			wantRight(t, "one of many", d, someState(source, d), true)
		}
	}
}

func TestStateRightByStatus(t *testing.T) {
	for _, status := range []int64{math.MinInt64, -1, 3, 4, 256, 1<<32 + 1, math.MaxInt64} {
		wantRight(t, "no Status", loops(), impl.State{Status: status}, false)
		wantRight(t, "no Status", loops(), altered(standing(), func(s *impl.State) { s.Status = status }), false)
		wantRight(t, "no Status", loops(), altered(over(), func(s *impl.State) { s.Status = status }), false)
	}
	for _, status := range []int64{impl.StNone, impl.StRunning, impl.StEnded} {
		wantRight(t, "nothing beside Status", loops(), impl.State{Status: status}, true)
	}
	wantRight(t, "a run that stands", loops(), standing(), true)
	wantRight(t, "a run that is over", loops(), over(), true)
}

func TestStateRightOfNone(t *testing.T) {
	wantRight(t, "StNone with empty lists", loops(), impl.State{Wait: []string{}, Busy: []string{}, Vars: []impl.Var{}}, true)
	for _, n := range []int64{math.MinInt64, -1, 1, impl.MaxTime, math.MaxInt64} {
		wantRight(t, "StNone with Begun", loops(), impl.State{Begun: n}, false)
		wantRight(t, "StNone with Last", loops(), impl.State{Last: n}, false)
		wantRight(t, "StNone with Faults", loops(), impl.State{Faults: n}, false)
	}
	wantRight(t, "StNone with a mark in Wait", loops(), impl.State{Wait: []string{"b"}}, false)
	wantRight(t, "StNone with a mark in Busy", loops(), impl.State{Busy: []string{"b"}}, false)
	wantRight(t, "StNone with a Var", loops(), impl.State{Vars: []impl.Var{{Name: "n"}}}, false)
	wantRight(t, "StNone with a zero Var", loops(), impl.State{Vars: []impl.Var{{}}}, false)
}

func TestStateRightByTimes(t *testing.T) {
	times := []int64{math.MinInt64, -1, 0, 1, 500, impl.MaxTime - 1, impl.MaxTime, impl.MaxTime + 1, math.MaxInt64}
	for _, begun := range times {
		for _, last := range times {
			want := begun >= 0 && begun <= last && last <= impl.MaxTime
			for _, s := range []impl.State{standing(), over()} {
				s.Begun, s.Last = begun, last
				wantRight(t, "Begun and Last", loops(), s, want)
			}
		}
	}
}

func TestStateRightByFaults(t *testing.T) {
	for _, faults := range []int64{math.MinInt64, -1, 0, 1, impl.MaxTime - 1, impl.MaxTime, impl.MaxTime + 1, math.MaxInt64} {
		for _, s := range []impl.State{standing(), over()} {
			s.Faults = faults
			wantRight(t, "Faults", loops(), s, faults >= 0 && faults <= impl.MaxTime)
		}
	}
}

// markLists: lists of marks of loops, and whether they are right.
func markLists() map[bool][][]string {
	return map[bool][][]string{
		true: {nil, {}, {"a"}, {"b"}, {"c"}, {"a", "b", "c"}, {"a", "a"}, {"b", "b", "b", "c", "c"}, slices.Repeat([]string{"c"}, 38)},
		false: {{"b", "a"}, {"a", "c", "b"}, {"c", "a"}, {"a", "a", "c", "b", "c"}, {"d"}, {""}, {"", "a"}, {"a", "d"}, {"a", "aa"}, {"A", "a"},
			{"a", "b", "c", "zz"}, slices.Repeat([]string{"c"}, 41), slices.Repeat([]string{"c"}, impl.MaxList+1)},
	}
}

func TestStateRightByMarks(t *testing.T) {
	for want, lists := range markLists() {
		for _, l := range lists {
			wantRight(t, "Wait alone", loops(), altered(standing(), func(s *impl.State) { s.Wait, s.Busy = l, nil }), want)
			wantRight(t, "Busy alone", loops(), altered(standing(), func(s *impl.State) { s.Wait, s.Busy = nil, l }), want)
			wantRight(t, "Wait beside Busy", loops(), altered(standing(), func(s *impl.State) { s.Wait = l }), want)
			wantRight(t, "Busy beside Wait", loops(), altered(standing(), func(s *impl.State) { s.Wait, s.Busy = s.Busy, l }), want)
		}
	}
	wantRight(t, "the same step in both", loops(), altered(standing(), func(s *impl.State) {
		s.Wait, s.Busy = []string{"c", "c"}, []string{"c", "c"}
	}), true)
	wantRight(t, "steps of a Def of other ones", shapes()[0], standing(), false)
}

func TestStateRightByHowManyMarks(t *testing.T) {
	for _, all := range []int{38, 39, 40, 41, 42, 80} {
		for _, waiting := range []int{0, 1, all / 2, all - 1, all} {
			s := standing()
			s.Wait = slices.Repeat([]string{"a"}, waiting)
			s.Busy = slices.Repeat([]string{"b"}, all-waiting)
			wantRight(t, "marks in both", loops(), s, all <= 40)
		}
	}
}

func TestStateRightOfEndedWithMarks(t *testing.T) {
	wantRight(t, "StEnded with a mark in Wait", loops(), altered(over(), func(s *impl.State) { s.Wait = []string{"a"} }), false)
	wantRight(t, "StEnded with a mark in Busy", loops(), altered(over(), func(s *impl.State) { s.Busy = []string{"a"} }), false)
	wantRight(t, "StEnded with empty lists", loops(), altered(over(), func(s *impl.State) { s.Wait, s.Busy = []string{}, []string{} }), true)
}

// named: Vars of these names.
func named(names ...string) []impl.Var {
	var out []impl.Var
	for _, name := range names {
		out = append(out, impl.Var{Name: name, Value: "v"})
	}
	return out
}

func wantVars(t *testing.T, what string, vars []impl.Var, want bool) {
	t.Helper()
	for _, s := range []impl.State{standing(), over()} {
		s.Vars = vars
		wantRight(t, what, loops(), s, want)
	}
}

func TestStateRightByVars(t *testing.T) {
	wantVars(t, "no Vars", nil, true)
	wantVars(t, "an empty list of Vars", []impl.Var{}, true)
	wantVars(t, "Vars in order", named("a", "a0", "a_", "aa", "b"), true)
	wantVars(t, "a Var of a Step's name", named("a", "b", "c"), true)
	wantVars(t, "Vars out of order", named("b", "a"), false)
	wantVars(t, "the longer one first", named("aa", "a"), false)
	wantVars(t, "the last two out of order", named("a", "b", "d", "c"), false)
	wantVars(t, "the first two out of order", named("b", "a", "c", "d"), false)
	wantVars(t, "two of one Name", named("a", "a"), false)
	wantVars(t, "two of one Name and other Values", []impl.Var{{Name: "a", Value: "1"}, {Name: "a", Value: "2"}}, false)
	wantVars(t, "two of one Name at the end", named("a", "b", "c", "c"), false)
	for _, name := range []string{"", "A", "_a", "1", "a b", "a\n", strings.Repeat("v", 21), filled(9000)} {
		wantVars(t, "a Name that is no name", named(name), false)
	}
	wantVars(t, "no name behind a name", named("a", "b c"), false)
	wantVars(t, "a Name of 20 bytes", named(strings.Repeat("v", 20)), true)
}

func TestStateRightByValues(t *testing.T) {
	for _, size := range []int{0, 1, 39, 40, 41, 42, 9000} {
		wantVars(t, "a Value of that size", []impl.Var{{Name: "a", Value: filled(size)}}, size <= 40)
		wantVars(t, "a Value of that size at the end", []impl.Var{{Name: "a"}, {Name: "b", Value: filled(size)}}, size <= 40)
	}
	for _, size := range []int{19, 20, 21, 22} {
		wantVars(t, "so many Vars", someVars(size), size <= 20)
	}
	wantVars(t, "401 Vars", named(slices.Repeat([]string{"a"}, impl.MaxList+1)...), false)
}

func TestStateRightOfWrongDefs(t *testing.T) {
	for what, d := range wrongDefs() {
		for _, s := range []impl.State{{}, {Status: impl.StRunning}, {Status: impl.StEnded}, standing(), over()} {
			wantRight(t, what, d, s, false)
		}
	}
}

func TestStateRightLeavesItsLists(t *testing.T) {
	for _, lists := range markLists() {
		for _, l := range lists {
			s := altered(standing(), func(s *impl.State) { s.Wait, s.Vars = l, named("b", "a") })
			before := copied(s)
			impl.StateRight(loops(), s)
			if !sameState(s, before) {
				t.Errorf("StateRight changed %+v", before)
			}
		}
	}
}
