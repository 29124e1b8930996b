package tests

import (
	"math/rand"
	"slices"
	"strconv"
	"testing"

	"loop.example/g00366/impl"
)

// durations: what the document says of a right history, told over again: each EvLeave looks for its EvEnter.
func durations(d impl.Def, l []impl.Event) []impl.Dur {
	var out []impl.Dur
	taken := make([]bool, len(l))
	for _, step := range ordered(slices.Clone(d.Steps)...) {
		told := impl.Dur{Step: step}
		for _, left := range l {
			if left.Kind != impl.EvLeave || left.Step != step {
				continue
			}
			place := 0
			for taken[place] || l[place].Kind != impl.EvEnter || l[place].Step != step || l[place].Run != left.Run {
				place++
			}
			taken[place] = true
			lasted := left.Time - l[place].Time
			if told.Count == 0 || lasted < told.Least {
				told.Least = lasted
			}
			told.Most = max(told.Most, lasted)
			told.Sum += lasted
			told.Count++
		}
		if told.Count > 0 {
			out = append(out, told)
		}
	}
	return out
}

func TestDurationsOfStepsThatAreLeft(t *testing.T) {
	once := numbered(at(3, 7, impl.EvStart, ""), at(3, 9, impl.EvEnter, "b"), at(3, 14, impl.EvLeave, "b"))
	wantList(t, "once", impl.Durations(loops(), once), []impl.Dur{{Step: "b", Count: 1, Sum: 5, Least: 5, Most: 5}})
	wantNoList(t, "entered, not left", impl.Durations(loops(), once[:2]))
	wantNoList(t, "not entered", impl.Durations(loops(), once[:1]))
	wantList(t, "a whole run", impl.Durations(loops(), numbered(whole()...)), []impl.Dur{{Step: "b", Count: 1, Sum: 4, Least: 4, Most: 4}, {Step: "c", Count: 1, Sum: 5, Least: 5, Most: 5}})
	also := append(whole()[:7], ev(30, impl.EvFault, "c"))
	wantList(t, "one left, another not", impl.Durations(loops(), numbered(also...)), []impl.Dur{{Step: "b", Count: 1, Sum: 4, Least: 4, Most: 4}})
	far := numbered(at(1, 0, impl.EvStart, ""), at(1, 0, impl.EvEnter, "b"), at(1, impl.MaxTime, impl.EvLeave, "b"))
	wantList(t, "all of time", impl.Durations(loops(), far), []impl.Dur{{Step: "b", Count: 1, Sum: impl.MaxTime, Least: impl.MaxTime, Most: impl.MaxTime}})
}

func TestDurationsTakeTheFirstEntered(t *testing.T) {
	l := numbered(stayed(6)...)
	a := impl.Dur{Step: "a", Count: 4, Sum: 13, Least: 0, Most: 5}
	wantList(t, "all", impl.Durations(twice(), l), []impl.Dur{a, {Step: "b", Count: 3, Sum: 124, Least: 33, Most: 50}})
	wantList(t, "two left", impl.Durations(twice(), l[:len(l)-1]), []impl.Dur{a, {Step: "b", Count: 2, Sum: 91, Least: 41, Most: 50}})
	wantList(t, "one left", impl.Durations(twice(), l[:11]), []impl.Dur{{Step: "a", Count: 3, Sum: 8, Least: 0, Most: 5}, {Step: "b", Count: 1, Sum: 50, Least: 50, Most: 50}})
	wantList(t, "three entered, none left", impl.Durations(twice(), l[:10]), []impl.Dur{{Step: "a", Count: 3, Sum: 8, Least: 0, Most: 5}})
}

func TestDurationsOfSeveralRuns(t *testing.T) {
	l := numbered(
		at(9, 100, impl.EvStart, ""), at(2, 3, impl.EvStart, ""),
		at(9, 110, impl.EvEnter, "b"), at(2, 4, impl.EvEnter, "b"),
		at(2, 34, impl.EvLeave, "b"), at(9, 112, impl.EvLeave, "b"),
		at(5, 0, impl.EvStart, ""), at(5, 0, impl.EvEnter, "b"),
		at(2, 40, impl.EvEnter, "c"), at(9, 112, impl.EvEnter, "c"), at(9, 119, impl.EvLeave, "c"),
	)
	want := []impl.Dur{{Step: "b", Count: 2, Sum: 32, Least: 2, Most: 30}, {Step: "c", Count: 1, Sum: 7, Least: 7, Most: 7}}
	wantList(t, "three runs", impl.Durations(loops(), l), want)
	var both []impl.Event
	for i, e := range stayed(1) {
		other := stayed(8)[i]
		other.Time = 2*other.Time + 1
		both = append(both, e, other)
	}
	want = []impl.Dur{{Step: "a", Count: 8, Sum: 39, Least: 0, Most: 10}, {Step: "b", Count: 6, Sum: 372, Least: 33, Most: 100}}
	wantList(t, "two runs at once", impl.Durations(twice(), numbered(both...)), want)
}

func TestDurationsOfNothing(t *testing.T) {
	var l []impl.Event
	l = append(l, at(1, 6, impl.EvStart, ""))
	for range 5 {
		l = append(l, at(1, 6, impl.EvEnter, "a"), at(1, 6, impl.EvLeave, "a"))
	}
	wantList(t, "lastings of 0", impl.Durations(twice(), numbered(l...)), []impl.Dur{{Step: "a", Count: 5}})
	l = append(l, at(1, 6, impl.EvEnter, "a"), at(1, 9, impl.EvLeave, "a"))
	wantList(t, "one of 3 behind them", impl.Durations(twice(), numbered(l...)), []impl.Dur{{Step: "a", Count: 6, Sum: 3, Most: 3}})
	l = append(l, at(2, 0, impl.EvStart, ""), at(2, 0, impl.EvEnter, "a"), at(2, 8, impl.EvLeave, "a"), at(2, 8, impl.EvEnter, "a"), at(2, 8, impl.EvLeave, "a"))
	wantList(t, "of 8 and of 0 in another run", impl.Durations(twice(), numbered(l...)), []impl.Dur{{Step: "a", Count: 8, Sum: 11, Most: 8}})
}

func TestDurationsInTheOrderOfTexts(t *testing.T) {
	steps := []string{"b", "ab", "a", "a_", "a1", "aa", "z", "b0", "ba", "b_", "x", "a0"}
	var each []impl.Flow
	l := []impl.Event{at(1, 0, impl.EvStart, "")}
	for i, step := range steps {
		l = append(l, at(1, int64(100*i), impl.EvEnter, step), at(1, int64(101*i), impl.EvLeave, step))
		if i > 0 {
			each = append(each, impl.Flow{From: steps[i-1], To: step})
		}
	}
	var want []impl.Dur
	for _, step := range []string{"a", "a0", "a1", "a_", "aa", "ab", "b", "b0", "b_", "ba", "x", "z"} {
		lasted := int64(slices.Index(steps, step))
		want = append(want, impl.Dur{Step: step, Count: 1, Sum: lasted, Least: lasted, Most: lasted})
	}
	wantList(t, "twelve steps", impl.Durations(impl.Def{Steps: steps, Flows: each}, numbered(l...)), want)
}

func TestDurationsOfWhatIsNoRightHistory(t *testing.T) {
	for what, d := range wrongDefs() {
		wantNoList(t, what, impl.Durations(d, numbered(whole()...)))
		wantNoList(t, what+", no events", impl.Durations(d, nil))
	}
	for _, d := range shapes() {
		wantNoList(t, "no events", impl.Durations(d, nil))
		wantNoList(t, "an empty list", impl.Durations(d, []impl.Event{}))
	}
	wantNoList(t, "all Seqs alike", impl.Durations(loops(), whole()))
	wantNoList(t, "no start", impl.Durations(loops(), numbered(whole()...)[1:]))
	wantNoList(t, "a wrong one", impl.Durations(loops(), append(numbered(whole()...), impl.Event{Seq: 99})))
	wantNoList(t, "another run that is refused", impl.Durations(loops(), append(numbered(whole()...), impl.Event{Seq: 99, Run: 2, Kind: impl.EvEnd})))
	for code, bad := range refusedRuns() {
		wantNoList(t, "a run refused with "+strconv.FormatInt(code, 10), impl.Durations(loops(), numbered(append(whole(), setRun(bad, 2)...)...)))
	}
}

// setRun: those events as of that run.
func setRun(l []impl.Event, run int64) []impl.Event {
	out := slices.Clone(l)
	for i := range out {
		out[i].Run = run
	}
	return out
}

// rounds: so many events of a run that goes round and round: its step lasts 2, 3 and 4 in turn.
func rounds(size int) []impl.Event {
	l := []impl.Event{at(1, 0, impl.EvStart, "")}
	for i := int64(0); len(l) < size; i++ {
		l = append(l, at(1, 10*i, impl.EvEnter, "only"), at(1, 10*i+2+i%3, impl.EvLeave, "only"))
	}
	return numbered(l[:size]...)
}

func TestDurationsByHowManyThereAre(t *testing.T) {
	round := impl.Def{Steps: []string{"only"}, Flows: flows("only only")}
	want := []impl.Dur{{Step: "only", Count: 99, Sum: 297, Least: 2, Most: 4}}
	for _, size := range []int{impl.MaxEvents - 1, impl.MaxEvents} {
		wantList(t, "as many as may be", impl.Durations(round, rounds(size)), want)
	}
	for _, size := range []int{impl.MaxEvents + 1, impl.MaxList, impl.MaxList + 1, 900} {
		wantNoList(t, "too many", impl.Durations(round, rounds(size)))
	}
}

func TestEachStepThatWasLeftIsTold(t *testing.T) {
	source := rand.New(rand.NewSource(56))
	several := 0
	for _, d := range append(shapes(), twice()) {
		for range 30 {
			l := someHistory(source, d)
			got := impl.Durations(d, l)
			wantList(t, "a history", got, durations(d, l))
			var left, told int64
			for _, e := range l {
				if e.Kind == impl.EvLeave {
					left++
				}
			}
			for _, x := range got {
				told += x.Count
				if x.Count > 1 && x.Least < x.Most {
					several++
				}
			}
			if told != left {
				t.Errorf("steps were left %d times, and told %d times", left, told)
			}
		}
	}
	if several < 100 {
		t.Errorf("%d steps that lasted now longer, now shorter are too few to tell", several)
	}
}

func TestDurationsAreNewAndLeaveWhatTheyAreGiven(t *testing.T) {
	source := rand.New(rand.NewSource(57))
	for _, d := range append(shapes(), twice()) {
		was := someHistory(source, d)
		given, def := roomy(was), copiedDef(d)
		got := impl.Durations(def, given)
		want := slices.Clone(got)
		wantAsItWas(t, "Durations", given, was)
		wantDefAsItWas(t, "Durations", def, copiedDef(d))
		for _, x := range got {
			wantApart(t, "Durations", []string{x.Step}, slices.Concat(def.Steps, eventTexts(given)))
		}
		clear(given)
		clear(def.Steps)
		wantList(t, "behind a change of what was given", got, want)
	}
}
