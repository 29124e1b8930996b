package tests

import (
	"math"
	"math/rand"
	"slices"
	"testing"

	"loop.example/g00366/impl"
)

func TestServiceNew(t *testing.T) {
	for _, d := range shapes() {
		s := impl.ServiceNew(d)
		if !sameService(s, impl.Service{Def: d, Next: 1}) {
			t.Errorf("of the Def %+v: got %+v", d, s)
		}
		wantRightService(t, "a new one", s, true)
	}
}

func TestServiceNewOfWrongDefs(t *testing.T) {
	for what, d := range wrongDefs() {
		if s := impl.ServiceNew(d); !sameService(s, impl.Service{}) {
			t.Errorf("%s: got %+v, want the zero Service", what, s)
		}
	}
}

func TestServiceNewIsNewAndLeavesWhatItIsGiven(t *testing.T) {
	for _, d := range shapes() {
		given := copiedDef(d)
		s := impl.ServiceNew(given)
		wantDefAsItWas(t, "ServiceNew", given, copiedDef(d))
		clear(given.Steps)
		clear(given.Flows)
		if !sameService(s, impl.Service{Def: d, Next: 1}) {
			t.Errorf("behind a change of what was given: got %+v", s)
		}
		given = copiedDef(d)
		wantOwnService(t, "ServiceNew", impl.ServiceNew(given), defTexts(given))
		wipe(impl.ServiceNew(given))
		wantDefAsItWas(t, "ServiceNew, what it told wiped", given, copiedDef(d))
	}
}

func TestServiceRightOfNoEvents(t *testing.T) {
	cases := map[int64]bool{math.MinInt64: false, -1: false, 0: false, 1: true, 2: true, 500: true,
		impl.MaxTime - 1: true, impl.MaxTime: true, impl.MaxTime + 1: false, 1 << 40: false, math.MaxInt64: false}
	for next, want := range cases {
		for _, d := range shapes() {
			wantRightService(t, "no Events", impl.Service{Def: d, Next: next}, want)
			wantRightService(t, "an empty list", impl.Service{Def: d, Events: []impl.Event{}, Next: next}, want)
		}
	}
}

func TestServiceRightByNext(t *testing.T) {
	gaps := numbered(ending(3, 5, 9)...)
	gaps[2].Seq, gaps[3].Seq = 40, 700
	far := numbered(ending(3, 5, 9)...)
	far[3].Seq = impl.MaxTime - 1
	farthest := numbered(ending(3, 5, 9)...)
	farthest[3].Seq = impl.MaxTime
	cases := []struct {
		what   string
		events []impl.Event
		wrong  []int64
		right  []int64
	}{
		{"one", numbered(at(1, 0, impl.EvStart, "")), []int64{math.MinInt64, -1, 0, 1, impl.MaxTime + 1, math.MaxInt64}, []int64{2, 3, impl.MaxTime}},
		{"one by one", numbered(ending(3, 5, 9)...), []int64{-5, 0, 1, 3, 4, impl.MaxTime + 1}, []int64{5, 6, 400, impl.MaxTime}},
		{"with gaps", gaps, []int64{-1, 0, 1, 3, 40, 41, 699, 700, impl.MaxTime + 1}, []int64{701, 702, impl.MaxTime - 1, impl.MaxTime}},
		{"up to one below MaxTime", far, []int64{0, 1, 4, impl.MaxTime - 2, impl.MaxTime - 1, impl.MaxTime + 1}, []int64{impl.MaxTime}},
		{"up to MaxTime", farthest, []int64{0, 1, 4, impl.MaxTime - 1, impl.MaxTime, impl.MaxTime + 1, math.MaxInt64}, nil},
	}
	for _, c := range cases {
		for _, next := range c.wrong {
			wantRightService(t, c.what, impl.Service{Def: plain(), Events: c.events, Next: next}, false)
		}
		for _, next := range c.right {
			wantRightService(t, c.what, impl.Service{Def: plain(), Events: c.events, Next: next}, true)
		}
	}
}

func TestServiceRightOfWrongOnes(t *testing.T) {
	for what, s := range wrongServices() {
		wantRightService(t, what, s, false)
	}
	for code, run := range refusedRuns() {
		wantCode(t, "a run that is refused", impl.StateOf(loops(), run), code)
		wantRightService(t, "of a run that is refused", serving(loops(), numbered(run...)...), false)
	}
	for _, e := range allEdges() {
		if !e.right {
			wantRightService(t, e.what, impl.Service{Def: loops(), Events: []impl.Event{e.event}, Next: impl.MaxTime}, false)
		}
	}
}

func TestServiceRightByHowManyThereAre(t *testing.T) {
	for _, size := range []int{1, 2, impl.MaxEvents - 1, impl.MaxEvents} {
		wantRightService(t, "many runs", serving(loops(), spread(size)...), true)
		wantRightService(t, "one run", serving(loops(), numbered(sets(size)...)...), true)
	}
	for _, size := range []int{impl.MaxEvents + 1, impl.MaxList, impl.MaxList + 1, 900} {
		wantRightService(t, "too many, of many runs", serving(loops(), spread(size)...), false)
		wantRightService(t, "too many, of one run", serving(loops(), numbered(sets(size)...)...), false)
	}
}

func TestServiceRightAsTheDocumentSays(t *testing.T) {
	source := rand.New(rand.NewSource(91))
	told := map[bool]int{}
	for _, d := range shapes() {
		for range 6 {
			s := someService(source, d)
			wantRightService(t, "a right one", s, true)
			for range 12 {
				bad := s
				if len(s.Events) > 0 && source.Intn(3) > 0 {
					bad.Events = spoilt(source, s.Events)
				}
				bad.Next += somePick[int64](source, 0, 0, -1, -2, 1, impl.MaxTime-bad.Next, impl.MaxTime-bad.Next+1)
				want := serviceRight(bad)
				wantRightService(t, "one that was changed", bad, want)
				told[want]++
			}
		}
	}
	if min(told[true], told[false]) < 100 {
		t.Errorf("%v are too few to tell", told)
	}
}

func TestServiceRightLeavesWhatItIsGiven(t *testing.T) {
	source := rand.New(rand.NewSource(92))
	for _, d := range shapes() {
		was := someService(source, d)
		for _, next := range []int64{was.Next, 0, impl.MaxTime} {
			given := copiedService(nextAt(was, next))
			impl.ServiceRight(given)
			wantServiceAsItWas(t, "ServiceRight", given, was)
		}
		wrong := was
		wrong.Events = append(slices.Clone(was.Events), impl.Event{Seq: 9})
		given := copiedService(wrong)
		impl.ServiceRight(given)
		wantServiceAsItWas(t, "ServiceRight of a wrong one", given, wrong)
	}
}
