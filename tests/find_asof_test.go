package tests

import (
	"math"
	"math/rand"
	"slices"
	"testing"

	"loop.example/g00366/impl"
)

// asOf: what the document says of a right history and a time, told over again.
func asOf(d impl.Def, l []impl.Event, run int64, time int64) impl.StateOut {
	own := ownOf(l, run)
	if len(own) == 0 {
		return impl.StateOut{Code: impl.ErrNone}
	}
	return stateOf(d, slices.DeleteFunc(own, func(e impl.Event) bool { return e.Time > time }))
}

// beside: the run of whole as the run 4, and beside it one of the run 2 that goes on behind it.
func beside() []impl.Event {
	var out []impl.Event
	for i, e := range whole() {
		e.Run = 4
		out = append(out, e)
		if i == 3 {
			out = append(out, at(2, 2, impl.EvStart, ""), at(2, impl.MaxTime-1, impl.EvEnter, "b"), at(2, impl.MaxTime, impl.EvLeave, "b"))
		}
	}
	return numbered(out...)
}

func TestAsOfTimesOfARun(t *testing.T) {
	me, you := impl.Var{Name: "who", Value: "me"}, impl.Var{Name: "who", Value: "you"}
	ended := impl.State{Status: impl.StEnded, Begun: 5, Last: 20, Vars: []impl.Var{{Name: "how"}, you}, Faults: 2}
	cases := map[int64]impl.State{
		0:                {},
		4:                {},
		5:                {Status: impl.StRunning, Begun: 5, Last: 5, Busy: []string{"b"}},
		6:                {Status: impl.StRunning, Begun: 5, Last: 6, Busy: []string{"b"}, Vars: []impl.Var{me}},
		7:                {Status: impl.StRunning, Begun: 5, Last: 7, Busy: []string{"b"}, Vars: []impl.Var{me}, Faults: 1},
		8:                {Status: impl.StRunning, Begun: 5, Last: 7, Busy: []string{"b"}, Vars: []impl.Var{me}, Faults: 1},
		9:                {Status: impl.StRunning, Begun: 5, Last: 9, Wait: []string{"c"}, Vars: []impl.Var{you}, Faults: 1},
		11:               {Status: impl.StRunning, Begun: 5, Last: 10, Busy: []string{"c"}, Vars: []impl.Var{you}, Faults: 1},
		15:               {Status: impl.StRunning, Begun: 5, Last: 15, Vars: []impl.Var{{Name: "how"}, you}, Faults: 2},
		19:               {Status: impl.StRunning, Begun: 5, Last: 15, Vars: []impl.Var{{Name: "how"}, you}, Faults: 2},
		20:               ended,
		21:               ended,
		impl.MaxTime - 1: ended,
		impl.MaxTime:     ended,
	}
	for time, want := range cases {
		wantState(t, "one of two runs", impl.AsOf(loops(), beside(), 4, time), impl.StateOut{State: want})
		wantState(t, "the only run", impl.AsOf(loops(), numbered(whole()...), 1, time), impl.StateOut{State: want})
	}
}

func TestAsOfTheEdgesOfTime(t *testing.T) {
	begun := impl.State{Status: impl.StRunning, Begun: 2, Last: 2, Wait: []string{"b"}}
	busy := impl.State{Status: impl.StRunning, Begun: 2, Last: impl.MaxTime - 1, Busy: []string{"b"}}
	left := impl.State{Status: impl.StRunning, Begun: 2, Last: impl.MaxTime, Wait: []string{"c"}}
	wantState(t, "ahead of its first", impl.AsOf(loops(), beside(), 2, 1), impl.StateOut{})
	wantState(t, "at its first", impl.AsOf(loops(), beside(), 2, 2), impl.StateOut{State: begun})
	wantState(t, "ahead of its second", impl.AsOf(loops(), beside(), 2, impl.MaxTime-2), impl.StateOut{State: begun})
	wantState(t, "at its second", impl.AsOf(loops(), beside(), 2, impl.MaxTime-1), impl.StateOut{State: busy})
	wantState(t, "at the last time", impl.AsOf(loops(), beside(), 2, impl.MaxTime), impl.StateOut{State: left})
	zero := numbered(at(1, 0, impl.EvStart, ""), at(1, 0, impl.EvEnter, "b"), at(1, 1, impl.EvLeave, "b"))
	wantState(t, "at the time 0", impl.AsOf(loops(), zero, 1, 0), impl.StateOut{State: impl.State{Status: impl.StRunning, Busy: []string{"b"}}})
	wantState(t, "at the time 1", impl.AsOf(loops(), zero, 1, 1), impl.StateOut{State: impl.State{Status: impl.StRunning, Last: 1, Wait: []string{"c"}}})
	for _, time := range []int64{math.MinInt64, -impl.MaxTime, -1, impl.MaxTime + 1, 1 << 40, math.MaxInt64} {
		wantCode(t, "no time", impl.AsOf(loops(), beside(), 2, time), impl.ErrForm)
		wantCode(t, "no time, and no such run", impl.AsOf(loops(), beside(), 3, time), impl.ErrForm)
		wantCode(t, "no time, and no events", impl.AsOf(loops(), nil, 1, time), impl.ErrForm)
	}
}

func TestAsOfRunsThatAreNotThere(t *testing.T) {
	for _, time := range []int64{0, 1, 20, impl.MaxTime} {
		for _, run := range []int64{math.MinInt64, -4, 0, 1, 3, 5, impl.MaxTime, impl.MaxTime + 1, math.MaxInt64} {
			wantCode(t, "a run that is not there", impl.AsOf(loops(), beside(), run, time), impl.ErrNone)
		}
		wantCode(t, "none", impl.AsOf(loops(), nil, 1, time), impl.ErrNone)
		wantCode(t, "an empty list", impl.AsOf(loops(), []impl.Event{}, 1, time), impl.ErrNone)
	}
}

func TestAsOfWhatIsNoRightHistory(t *testing.T) {
	alike, falls := beside(), beside()
	alike[5].Seq = alike[4].Seq
	falls[5].Seq = 1
	wrong := map[string][]impl.Event{
		"two Seqs alike":               alike,
		"a Seq that falls":             falls,
		"no start":                     beside()[1:],
		"a wrong one of that run":      append(beside(), impl.Event{Seq: 99, Time: 20, Run: 4}),
		"a wrong one of no run":        append(beside(), impl.Event{Seq: 99, Time: 20, Kind: impl.EvStart}),
		"another run that is refused":  append(beside(), impl.Event{Seq: 99, Time: 20, Run: 3, Kind: impl.EvEnd}),
		"refused behind the time":      append(beside(), impl.Event{Seq: 99, Time: 21, Run: 4, Kind: impl.EvStart}),
		"one more than MaxEvents":      spread(impl.MaxEvents + 1),
		"as many as MaxList":           spread(impl.MaxList),
		"as many as MaxList, of wrong": make([]impl.Event, impl.MaxList),
	}
	for what, l := range wrong {
		for _, time := range []int64{-1, 0, 5, 20, impl.MaxTime, impl.MaxTime + 1} {
			for _, run := range []int64{0, 2, 4, 99} {
				wantCode(t, what, impl.AsOf(loops(), l, run, time), impl.ErrForm)
			}
		}
	}
	for what, d := range wrongDefs() {
		wantCode(t, what, impl.AsOf(d, beside(), 4, 5), impl.ErrForm)
		wantCode(t, what+", and no such run", impl.AsOf(d, beside(), 9, 5), impl.ErrForm)
		wantCode(t, what+", and no events", impl.AsOf(d, nil, 4, 5), impl.ErrForm)
	}
}

func TestAsOfTooMany(t *testing.T) {
	full := spread(impl.MaxEvents)
	wantState(t, "as many as MaxEvents", impl.AsOf(loops(), full, full[199].Run, 199), impl.StateOut{State: impl.State{Status: impl.StRunning, Begun: 199, Last: 199, Wait: []string{"b"}}})
	own := numbered(sets(impl.MaxEvents)...)
	wantState(t, "as many of one run", impl.AsOf(loops(), own, 1, 198), stateOf(loops(), own[:199]))
	for _, size := range []int{impl.MaxList + 1, impl.MaxList + 2, 5000} {
		for _, time := range []int64{-1, 0, impl.MaxTime + 1} {
			wantCode(t, "more than MaxList", impl.AsOf(loops(), spread(size), 1, time), impl.ErrSize)
			wantCode(t, "more than MaxList, and no such run", impl.AsOf(loops(), spread(size), 0, time), impl.ErrSize)
			wantCode(t, "more than MaxList, and a wrong Def", impl.AsOf(impl.Def{}, spread(size), 1, time), impl.ErrSize)
			wantCode(t, "more than MaxList, all wrong", impl.AsOf(loops(), make([]impl.Event, size), 1, time), impl.ErrSize)
		}
	}
}

// wantRunPromise: the second half of promise 5.
func wantRunPromise(t *testing.T, d impl.Def, l []impl.Event, run int64) {
	t.Helper()
	own := impl.OfRun(l, run)
	first, last := own[0].Time, own[len(own)-1].Time
	all := impl.StateOf(d, own)
	wantCode(t, "all of a run's events", all, impl.OK)
	wantState(t, "at a run's last time", impl.AsOf(d, l, run, last), all)
	wantState(t, "at the end of time", impl.AsOf(d, l, run, impl.MaxTime), all)
	if first > 0 {
		wantState(t, "ahead of a run's first event", impl.AsOf(d, l, run, first-1), impl.StateOf(d, nil))
		wantState(t, "at the time 0", impl.AsOf(d, l, run, 0), impl.StateOut{})
	}
	for time := max(first-1, 0); time <= last && time < first+60; time++ {
		wantState(t, "at a time of a run", impl.AsOf(d, l, run, time), asOf(d, l, run, time))
	}
}

func TestARunIsAtItsLastTimeAsAllOfItsEventsMakeIt(t *testing.T) {
	source := rand.New(rand.NewSource(55))
	for _, d := range shapes() {
		for range 5 {
			l := someHistory(source, d)
			for _, run := range impl.Runs(l) {
				wantRunPromise(t, d, l, run)
			}
		}
	}
	for _, run := range []int64{2, 4} {
		wantRunPromise(t, loops(), beside(), run)
	}
}

func TestAsOfIsNewAndLeavesWhatItIsGiven(t *testing.T) {
	for _, time := range []int64{0, 5, 6, 9, 15, 20, impl.MaxTime, impl.MaxTime + 1} {
		for _, run := range []int64{2, 4, 9} {
			given, d := roomy(beside()), copiedDef(loops())
			got := impl.AsOf(d, given, run, time)
			want := impl.StateOut{State: copied(got.State), Code: got.Code}
			wantAsItWas(t, "AsOf", given, beside())
			wantDefAsItWas(t, "AsOf", d, copiedDef(loops()))
			wantOwnTexts(t, got.State, slices.Concat(eventTexts(given), d.Steps))
			clear(given)
			clear(d.Steps)
			wantState(t, "behind a change of what was given", got, want)
			overwritten(impl.State{Wait: got.State.Wait})
			got.State.Wait = want.State.Wait
			wantState(t, "behind a change of Wait", got, want)
			overwritten(impl.State{Busy: got.State.Busy})
			got.State.Busy = want.State.Busy
			wantState(t, "behind a change of Busy", got, want)
		}
	}
}
