package tests

import (
	"math"
	"math/rand"
	"slices"
	"testing"

	"loop.example/g00366/impl"
)

// house: a Service of plain whose runs 3, 1 and 7 have ended, at 20, 50 and 20, while 2 and 9 go on; its Seqs have gaps.
func house() impl.Service {
	three, one, seven := ending(3, 5, 20), ending(1, 0, 50), ending(7, 20, 20)
	two, nine := ending(2, 1, 2)[:3], ending(9, 60, 60)[:1]
	l := []impl.Event{three[0], two[0], three[1], one[0], one[1], three[2], seven[0], two[1], seven[1], seven[2], three[3], one[2], seven[3], nine[0], two[2], one[3]}
	for i := range l {
		l[i].Seq = int64(2 + 3*i)
	}
	return impl.Service{Def: plain(), Events: l, Next: 60}
}

// stays: house with these runs alone.
func stays(runs ...int64) impl.Service {
	s := house()
	s.Events = slices.DeleteFunc(s.Events, func(e impl.Event) bool { return !slices.Contains(runs, e.Run) })
	return s
}

func TestCleanupByWhenRunsEnded(t *testing.T) {
	cases := []struct {
		before int64
		stay   []int64
		many   int64
	}{
		{0, []int64{3, 2, 1, 7, 9}, 0},
		{5, []int64{3, 2, 1, 7, 9}, 0},
		{19, []int64{3, 2, 1, 7, 9}, 0},
		{20, []int64{2, 1, 9}, 2},
		{21, []int64{2, 1, 9}, 2},
		{49, []int64{2, 1, 9}, 2},
		{50, []int64{2, 9}, 3},
		{51, []int64{2, 9}, 3},
		{impl.MaxTime - 1, []int64{2, 9}, 3},
		{impl.MaxTime, []int64{2, 9}, 3},
	}
	for _, c := range cases {
		got := impl.Cleanup(house(), c.before)
		wantService(t, "five runs", got, impl.ServiceOut{Service: stays(c.stay...), Many: c.many})
		wantRightService(t, "five runs", got.Service, true)
	}
}

func TestCleanupAtTheEdgesOfTime(t *testing.T) {
	for _, end := range []int64{0, 1, 2, 500, impl.MaxTime - 1, impl.MaxTime} {
		s := serving(plain(), numbered(ending(8, 0, end)...)...)
		gone := impl.ServiceOut{Service: nextAt(serving(plain()), s.Next), Many: 1}
		wantService(t, "at its end", impl.Cleanup(s, end), gone)
		wantService(t, "at the end of time", impl.Cleanup(s, impl.MaxTime), gone)
		if end > 0 {
			wantService(t, "one below its end", impl.Cleanup(s, end-1), impl.ServiceOut{Service: s})
			wantService(t, "at the time 0", impl.Cleanup(s, 0), impl.ServiceOut{Service: s})
		}
		if end < impl.MaxTime {
			wantService(t, "one above its end", impl.Cleanup(s, end+1), gone)
		}
	}
	for _, s := range []impl.Service{house(), serving(plain()), stays(2, 9), stays(3)} {
		for _, before := range []int64{math.MinInt64, -impl.MaxTime, -1, impl.MaxTime + 1, 1 << 40, math.MaxInt64} {
			wantRefused(t, "no time", impl.Cleanup(s, before), impl.ErrForm, 0)
		}
	}
}

func TestCleanupOfWrongServices(t *testing.T) {
	for what, s := range wrongServices() {
		for _, before := range []int64{-1, 0, 20, impl.MaxTime, impl.MaxTime + 1} {
			wantRefused(t, what, impl.Cleanup(s, before), impl.ErrForm, 0)
		}
	}
	for next := int64(0); next <= 47; next++ {
		wantRefused(t, "a Next that is not above each Seq", impl.Cleanup(nextAt(house(), next), impl.MaxTime), impl.ErrForm, 0)
	}
}

func TestCleanupWhereNothingGoes(t *testing.T) {
	for _, before := range []int64{0, 1, 20, impl.MaxTime} {
		for _, d := range shapes() {
			for _, next := range []int64{1, 2, impl.MaxTime} {
				s := impl.Service{Def: d, Next: next}
				wantService(t, "no Events", impl.Cleanup(s, before), impl.ServiceOut{Service: s})
			}
		}
		for _, s := range []impl.Service{stays(2), stays(9), stays(2, 9), begun(), serving(loops(), spread(impl.MaxEvents)...)} {
			wantService(t, "no run has ended", impl.Cleanup(s, before), impl.ServiceOut{Service: s})
		}
		once := impl.Cleanup(house(), before).Service
		wantService(t, "a second time", impl.Cleanup(once, before), impl.ServiceOut{Service: once})
	}
}

func TestCleanupLeavesNext(t *testing.T) {
	for _, next := range []int64{48, 49, 60, impl.MaxTime - 1, impl.MaxTime} {
		for _, before := range []int64{0, 20, 50, impl.MaxTime} {
			if got := impl.Cleanup(nextAt(house(), next), before); got.Code != impl.OK || got.Service.Next != next {
				t.Errorf("cleaned by %d: got Code %d, Next %d, want Next %d", before, got.Code, got.Service.Next, next)
			}
			all := nextAt(stays(3, 1, 7), next)
			if got := impl.Cleanup(all, before); got.Code != impl.OK || got.Service.Next != next {
				t.Errorf("all cleaned by %d: got Code %d, Next %d, want Next %d", before, got.Code, got.Service.Next, next)
			}
		}
	}
}

// A set, a fault, a leave or a start at a time that is long past does not end a run; nor does an end that is to come.
func TestCleanupGoesByEndsAlone(t *testing.T) {
	l := numbered(
		at(4, 1, impl.EvStart, ""), at(4, 1, impl.EvEnter, "b"), at(4, 2, impl.EvFault, "b"), at(4, 3, impl.EvLeave, "b"),
		at(5, 1, impl.EvStart, ""), at(5, 1, impl.EvSet, "end"), at(5, 1, impl.EvEnter, "b"), at(5, 1, impl.EvLeave, "b"),
		at(5, 1, impl.EvEnter, "c"), at(5, 1, impl.EvLeave, "c"), at(5, 9, impl.EvSet, "who"),
	)
	s := serving(loops(), l...)
	wantService(t, "all marks gone, but no end", impl.Cleanup(s, impl.MaxTime), impl.ServiceOut{Service: s})
	done := impl.Ingest(s, []impl.Event{at(5, 30, impl.EvEnd, "")}).Service
	wantService(t, "an end to come", impl.Cleanup(done, 29), impl.ServiceOut{Service: done})
	wantService(t, "an end", impl.Cleanup(done, 30), impl.ServiceOut{Service: nextAt(serving(loops(), l[:4]...), 13), Many: 1})
}

func TestCleanupOfAsManyAsMayBe(t *testing.T) {
	var l []impl.Event
	for i := range int64(50) {
		l = append(l, ending(1000-7*i, i, 100+i)...)
	}
	s := serving(plain(), numbered(l...)...)
	for i := range int64(52) {
		many := min(i, 50)
		want := impl.Service{Def: plain(), Events: s.Events[4*many:], Next: 201}
		wantService(t, "fifty runs", impl.Cleanup(s, 99+i), impl.ServiceOut{Service: want, Many: many})
	}
}

func TestCleanupAsTheDocumentSays(t *testing.T) {
	source := rand.New(rand.NewSource(94))
	var went int64
	for _, d := range append(shapes(), plain(), plain(), plain()) {
		for range 10 {
			s := someService(source, d)
			for range 10 {
				bad := s
				if len(s.Events) > 0 && source.Intn(3) == 0 {
					bad.Events = spoilt(source, s.Events)
				}
				before := somePick[int64](source, -1, 0, 1, 5, 20, 40, 100, 200, impl.MaxTime, impl.MaxTime+1)
				want := cleaned(bad, before)
				wantService(t, "any", impl.Cleanup(bad, before), want)
				went += want.Many
			}
		}
	}
	if went < 100 {
		t.Errorf("%d runs that went are too few to tell", went)
	}
}

func TestCleanupIsNewAndLeavesWhatItIsGiven(t *testing.T) {
	for _, was := range []impl.Service{house(), stays(2, 9), stays(3, 1, 7), serving(loops(), beside()...), serving(loops())} {
		for _, before := range []int64{-1, 0, 20, 50, impl.MaxTime} {
			given := copiedService(was)
			got := impl.Cleanup(given, before)
			wantServiceAsItWas(t, "Cleanup", given, was)
			texts := serviceTexts(given)
			wipe(given)
			wantService(t, "behind a change of what was given", got, cleaned(was, before))
			wantOwnService(t, "Cleanup", got.Service, texts)
			given = copiedService(was)
			wipe(impl.Cleanup(given, before).Service)
			wantServiceAsItWas(t, "Cleanup, what it told wiped", given, was)
		}
	}
}
