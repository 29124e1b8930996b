package tests

import (
	"math"
	"math/rand"
	"slices"
	"testing"

	"loop.example/g00366/impl"
)

// several: events of four runs, none of which is a right history, in no order at all.
func several() []impl.Event {
	return []impl.Event{
		{Seq: 9, Time: 5, Run: 7, Kind: impl.EvEnter, Step: "a"},
		{Seq: 3, Time: 5, Run: 2, Kind: impl.EvStart},
		{Seq: 3, Time: 0, Run: 7, Kind: impl.EvSet, Step: "x", Value: "some words"},
		{Seq: 1, Time: impl.MaxTime, Run: impl.MaxTime, Kind: impl.EvEnd},
		{Seq: 2, Time: 6, Run: 2, Kind: impl.EvFault, Step: "z"},
		{Seq: 3, Time: 5, Run: 2, Kind: impl.EvStart},
		{Seq: 8, Time: 4, Run: 1, Kind: impl.EvLeave, Step: "a"},
		{Seq: impl.MaxTime, Time: 7, Run: 7, Kind: impl.EvEnd},
	}
}

// places: those of several at these places.
func places(l ...int) []impl.Event {
	var out []impl.Event
	for _, place := range l {
		out = append(out, several()[place])
	}
	return out
}

func TestOfRun(t *testing.T) {
	wantList(t, "three of them", impl.OfRun(several(), 7), places(0, 2, 7))
	wantList(t, "two alike", impl.OfRun(several(), 2), places(1, 4, 5))
	wantList(t, "one of them", impl.OfRun(several(), 1), places(6))
	wantList(t, "the last run", impl.OfRun(several(), impl.MaxTime), places(3))
	for _, run := range []int64{math.MinInt64, -7, -1, 0, 3, 6, 8, impl.MaxTime - 1, impl.MaxTime + 1, math.MaxInt64} {
		wantNoList(t, "a run that is not there", impl.OfRun(several(), run))
	}
	for _, run := range []int64{0, 1} {
		wantNoList(t, "none", impl.OfRun(nil, run))
		wantNoList(t, "an empty list", impl.OfRun([]impl.Event{}, run))
	}
}

func TestBetween(t *testing.T) {
	wantList(t, "some", impl.Between(several(), 5, 6), places(0, 1, 4, 5))
	wantList(t, "at one time", impl.Between(several(), 5, 5), places(0, 1, 5))
	wantList(t, "at another", impl.Between(several(), 7, 7), places(7))
	wantList(t, "at the first", impl.Between(several(), 0, 0), places(2))
	wantList(t, "at the last", impl.Between(several(), impl.MaxTime, impl.MaxTime), places(3))
	wantList(t, "up to one ahead of some", impl.Between(several(), 0, 4), places(2, 6))
	wantList(t, "from one behind some", impl.Between(several(), 6, impl.MaxTime), places(3, 4, 7))
	wantList(t, "at all times", impl.Between(several(), 0, impl.MaxTime), several())
	wantList(t, "at more than all times", impl.Between(several(), math.MinInt64, math.MaxInt64), several())
	wantList(t, "from below all", impl.Between(several(), -1, 0), places(2))
	wantList(t, "to above all", impl.Between(several(), 8, impl.MaxTime+1), places(3))
	wantNoList(t, "at a time of none", impl.Between(several(), 3, 3))
	wantNoList(t, "between two of them", impl.Between(several(), 8, impl.MaxTime-1))
	wantNoList(t, "from above to", impl.Between(several(), 6, 5))
	wantNoList(t, "from far above to", impl.Between(several(), impl.MaxTime, 0))
	wantNoList(t, "from above to, beyond all", impl.Between(several(), math.MaxInt64, math.MinInt64))
	wantNoList(t, "below all", impl.Between(several(), -9, -1))
	wantNoList(t, "above all", impl.Between(several(), impl.MaxTime+1, math.MaxInt64))
	wantNoList(t, "none", impl.Between(nil, 0, impl.MaxTime))
	wantNoList(t, "an empty list", impl.Between([]impl.Event{}, 0, impl.MaxTime))
}

func TestRuns(t *testing.T) {
	wantList(t, "several", impl.Runs(several()), []int64{1, 2, 7, impl.MaxTime})
	wantList(t, "one, several times", impl.Runs(whole()), []int64{1})
	wantList(t, "one, once", impl.Runs(places(3)), []int64{impl.MaxTime})
	wantList(t, "falling", impl.Runs([]impl.Event{at1(9), at1(5), at1(2)}), []int64{2, 5, 9})
	wantList(t, "rising", impl.Runs([]impl.Event{at1(2), at1(5), at1(9)}), []int64{2, 5, 9})
	wantList(t, "there and back", impl.Runs([]impl.Event{at1(2), at1(9), at1(2), at1(10), at1(9), at1(2)}), []int64{2, 9, 10})
	wantNoList(t, "none", impl.Runs(nil))
	wantNoList(t, "an empty list", impl.Runs([]impl.Event{}))
}

// at1: a right event of that run.
func at1(run int64) impl.Event {
	return impl.Event{Seq: 1, Time: 1, Run: run, Kind: impl.EvStart}
}

func TestListsByHowManyThereAre(t *testing.T) {
	for _, size := range []int{1, 2, impl.MaxEvents - 1, impl.MaxEvents} {
		l := many(size)
		one := slices.Repeat([]impl.Event{at1(4)}, size)
		wantList(t, "OfRun of all", impl.OfRun(one, 4), one)
		wantList(t, "OfRun of many", impl.OfRun(l, 1), ownOf(l, 1))
		wantList(t, "Between of all", impl.Between(l, 0, impl.MaxTime), l)
		wantList(t, "Runs of many", impl.Runs(l), runNumbers(l))
		wantList(t, "Runs of all that are apart", impl.Runs(spread(size)), runNumbers(spread(size)))
	}
	for _, size := range []int{impl.MaxEvents + 1, impl.MaxList - 1, impl.MaxList, impl.MaxList + 1, 5000} {
		one := slices.Repeat([]impl.Event{at1(4)}, size)
		wantNoList(t, "OfRun of too many", impl.OfRun(one, 4))
		wantNoList(t, "Between of too many", impl.Between(one, 0, impl.MaxTime))
		wantNoList(t, "Runs of too many", impl.Runs(one))
	}
}

func TestListsOfEventsThatAreNotRight(t *testing.T) {
	for _, e := range allEdges() {
		for _, l := range [][]impl.Event{{e.event}, append(several(), e.event), append([]impl.Event{e.event}, several()...)} {
			run, own, time, all := impl.OfRun(l, 7), impl.OfRun(l, e.event.Run), impl.Between(l, math.MinInt64, math.MaxInt64), impl.Runs(l)
			if e.right {
				wantList(t, e.what, run, ownOf(l, 7))
				wantList(t, e.what, own, ownOf(l, e.event.Run))
				wantList(t, e.what, time, l)
				wantList(t, e.what, all, runNumbers(l))
				continue
			}
			wantNoList(t, "OfRun beside a wrong one: "+e.what, run)
			wantNoList(t, "OfRun a wrong one's: "+e.what, own)
			wantNoList(t, "Between with a wrong one: "+e.what, time)
			wantNoList(t, "Runs with a wrong one: "+e.what, all)
		}
	}
}

// wantAllOnce: the first half of promise 5.
func wantAllOnce(t *testing.T, l []impl.Event) {
	t.Helper()
	rest := slices.Clone(l)
	for _, run := range impl.Runs(l) {
		own := impl.OfRun(l, run)
		wantList(t, "the events of a run, in order", own, ownOf(l, run))
		for _, e := range own {
			place := slices.Index(rest, e)
			if place < 0 {
				t.Fatalf("%+v is told of the run %d more often than it is there", e, run)
			}
			rest = slices.Delete(rest, place, place+1)
		}
	}
	wantNoList(t, "events of no run", rest)
}

func TestTheEventsOfAllRunsAreAllEvents(t *testing.T) {
	source := rand.New(rand.NewSource(54))
	wantAllOnce(t, nil)
	wantAllOnce(t, several())
	wantAllOnce(t, spread(impl.MaxEvents))
	wantAllOnce(t, numbered(sets(impl.MaxEvents)...))
	for size := range impl.MaxEvents + 1 {
		l := many(size)
		source.Shuffle(size, func(i int, j int) { l[i], l[j] = l[j], l[i] })
		wantAllOnce(t, l)
	}
	for _, d := range shapes() {
		for range 8 {
			l := someHistory(source, d)
			wantAllOnce(t, l)
			runs := impl.Runs(l)
			wantList(t, "Runs", runs, runNumbers(l))
			from := l[source.Intn(len(l))].Time
			to := from + int64(source.Intn(40)) - 5
			inside := slices.DeleteFunc(slices.Clone(l), func(e impl.Event) bool { return e.Time < from || e.Time > to })
			wantList(t, "Between", impl.Between(l, from, to), inside)
		}
	}
}

func TestListsAreNewAndLeaveWhatTheyAreGiven(t *testing.T) {
	told := map[string]func(l []impl.Event) []impl.Event{
		"OfRun, some":   func(l []impl.Event) []impl.Event { return impl.OfRun(l, 7) },
		"OfRun, all":    func(l []impl.Event) []impl.Event { return impl.OfRun(l, 1) },
		"OfRun, none":   func(l []impl.Event) []impl.Event { return impl.OfRun(l, 4) },
		"Between, some": func(l []impl.Event) []impl.Event { return impl.Between(l, 0, 5) },
		"Between, all":  func(l []impl.Event) []impl.Event { return impl.Between(l, 0, impl.MaxTime) },
		"Between, none": func(l []impl.Event) []impl.Event { return impl.Between(l, 5, 4) },
	}
	for what, tell := range told {
		for _, was := range [][]impl.Event{several(), whole(), right(), append(several(), impl.Event{})} {
			given := roomy(was)
			got := tell(given)
			want := slices.Clone(got)
			wantAsItWas(t, what, given, was)
			wantApart(t, what, eventTexts(got), eventTexts(given))
			room := got[:cap(got)]
			for i := range room {
				room[i] = impl.Event{Value: "overwritten"}
			}
			wantAsItWas(t, what+", overwritten", given, was)
			got = tell(given)
			clear(given[:cap(given)])
			wantList(t, what+", behind a change of what was given", got, want)
		}
	}
}

func TestRunsAreNewAndLeaveWhatTheyAreGiven(t *testing.T) {
	given := roomy(several())
	got := impl.Runs(given)
	wantAsItWas(t, "Runs", given, several())
	clear(given)
	wantList(t, "Runs behind a change of what was given", got, []int64{1, 2, 7, impl.MaxTime})
	for i := range got {
		got[i] = 0
	}
	wantList(t, "Runs behind a change of what was told", impl.Runs(several()), []int64{1, 2, 7, impl.MaxTime})
}
