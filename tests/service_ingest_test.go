package tests

import (
	"math"
	"math/rand"
	"slices"
	"testing"

	"loop.example/g00366/impl"
)

// begun: a Service of loops that has one run, 4, which has just entered b, with Next 50.
func begun() impl.Service {
	return nextAt(serving(loops(), numbered(at(4, 10, impl.EvStart, ""), at(4, 12, impl.EvEnter, "b"))...), 50)
}

// goesWell: a batch behind begun that may happen.
func goesWell() []impl.Event {
	return []impl.Event{
		at(4, 12, impl.EvFault, "b"),
		at(9, 1, impl.EvStart, ""),
		at(4, 13, impl.EvLeave, "b"),
		at(9, 1, impl.EvEnter, "b"),
		at(4, 13, impl.EvEnter, "c"),
		at(2, 99, impl.EvStart, ""),
		at(9, 3, impl.EvLeave, "b"),
		at(4, 14, impl.EvLeave, "c"),
		at(4, 14, impl.EvEnd, ""),
	}
}

func TestIngestTakesABatch(t *testing.T) {
	first := impl.Ingest(impl.ServiceNew(loops()), []impl.Event{at(4, 10, impl.EvStart, "")})
	wantService(t, "the first one", first, impl.ServiceOut{Service: serving(loops(), numbered(at(4, 10, impl.EvStart, ""))...), Many: 1})
	want := begun()
	for i, e := range goesWell() {
		e.Seq = 50 + int64(i)
		want.Events, want.Next = append(want.Events, e), 51+int64(i)
		got := impl.Ingest(begun(), goesWell()[:i+1])
		wantService(t, "of three runs", got, impl.ServiceOut{Service: want, Many: int64(i) + 1})
		wantRightService(t, "of three runs", got.Service, true)
	}
}

func TestIngestBatchByBatch(t *testing.T) {
	all := impl.Ingest(begun(), goesWell()).Service
	for cut := 1; cut < len(goesWell()); cut++ {
		half := impl.Ingest(begun(), goesWell()[:cut]).Service
		got := impl.Ingest(half, goesWell()[cut:])
		wantService(t, "in two batches", got, impl.ServiceOut{Service: all, Many: int64(len(goesWell()) - cut)})
	}
}

func TestIngestGoesByNoSeq(t *testing.T) {
	want := impl.Ingest(begun(), goesWell())
	for _, seq := range []int64{math.MinInt64, -1, 0, 1, 2, 49, 50, 51, impl.MaxTime, impl.MaxTime + 1, math.MaxInt64} {
		l := goesWell()
		for i := range l {
			l[i].Seq = seq
		}
		wantService(t, "all with one Seq", impl.Ingest(begun(), l), want)
		l = goesWell()
		l[3].Seq = seq
		wantService(t, "one with a Seq", impl.Ingest(begun(), l), want)
	}
}

func TestIngestIntoWrongServices(t *testing.T) {
	for what, s := range wrongServices() {
		wantRefused(t, what, impl.Ingest(s, goesWell()), impl.ErrForm, 0)
		wantRefused(t, what+", a start", impl.Ingest(s, starts(1)), impl.ErrForm, 0)
		wantRefused(t, what+", no Events", impl.Ingest(s, nil), impl.ErrForm, 0)
		wantRefused(t, what+", behind another", impl.Ingest(s, append(starts(1), impl.Event{})), impl.ErrForm, 0)
		wantRefused(t, what+", too many", impl.Ingest(s, spread(impl.MaxEvents+1)), impl.ErrForm, 0)
		wantRefused(t, what+", many too many", impl.Ingest(s, spread(impl.MaxList+1)), impl.ErrSize, 0)
	}
}

func TestIngestByHowManyThereAre(t *testing.T) {
	wantRefused(t, "none", impl.Ingest(begun(), nil), impl.ErrForm, 0)
	wantRefused(t, "an empty list", impl.Ingest(begun(), []impl.Event{}), impl.ErrForm, 0)
	wantRefused(t, "none, at the last Next", impl.Ingest(nextAt(begun(), impl.MaxTime), nil), impl.ErrForm, 0)
	for _, size := range []int{1, 2, impl.MaxEvents - 1, impl.MaxEvents} {
		want := impl.ServiceOut{Service: serving(loops(), spread(size)...), Many: int64(size)}
		wantService(t, "many runs", impl.Ingest(impl.ServiceNew(loops()), spread(size)), want)
		want.Service = serving(loops(), numbered(sets(size)...)...)
		wantService(t, "one run", impl.Ingest(impl.ServiceNew(loops()), sets(size)), want)
	}
	for _, s := range []impl.Service{impl.ServiceNew(loops()), begun(), serving(loops(), spread(impl.MaxEvents)...), nextAt(begun(), impl.MaxTime)} {
		for _, size := range []int{impl.MaxEvents + 1, impl.MaxEvents + 2, impl.MaxList - 1, impl.MaxList} {
			wantRefused(t, "more than MaxEvents", impl.Ingest(s, spread(size)), impl.ErrForm, 0)
			wantRefused(t, "more than MaxEvents, wrong from the second on", impl.Ingest(s, append(spread(1), make([]impl.Event, size)...)[:size]), impl.ErrForm, 0)
		}
		for _, size := range []int{impl.MaxList + 1, impl.MaxList + 2, 5000} {
			wantRefused(t, "more than MaxList", impl.Ingest(s, spread(size)), impl.ErrSize, 0)
			wantRefused(t, "more than MaxList, all wrong", impl.Ingest(s, make([]impl.Event, size)), impl.ErrSize, 0)
		}
	}
}

// wantRefusedAnywhere: that event is refused with that code behind each part of goesWell up to it, whatever comes then.
func wantRefusedAnywhere(t *testing.T, what string, e impl.Event, code int64) {
	t.Helper()
	for place := range len(goesWell()) + 1 {
		l := slices.Concat(goesWell()[:place], []impl.Event{e})
		wantRefused(t, what+", the last one", impl.Ingest(begun(), l), code, int64(place))
		l = append(l, goesWell()[place:]...)
		wantRefused(t, what+", ahead of others", impl.Ingest(begun(), l), code, int64(place))
		l = append(l[:place+1], impl.Event{}, at(4, 0, impl.EvStart, ""))
		wantRefused(t, what+", ahead of wrong ones", impl.Ingest(begun(), l), code, int64(place))
	}
}

func TestIngestOfEventsThatAreRefused(t *testing.T) {
	wantRefusedAnywhere(t, "the zero Event", impl.Event{}, impl.ErrForm)
	wantRefusedAnywhere(t, "no name", at(4, 14, impl.EvEnter, "B"), impl.ErrForm)
	wantRefusedAnywhere(t, "no run", at(0, 14, impl.EvStart, ""), impl.ErrForm)
	wantRefusedAnywhere(t, "a run too far", at(impl.MaxTime+1, 14, impl.EvStart, ""), impl.ErrForm)
	wantRefusedAnywhere(t, "no time", at(4, impl.MaxTime+1, impl.EvFault, "b"), impl.ErrForm)
	wantRefusedAnywhere(t, "no kind", at(4, 14, 7, ""), impl.ErrForm)
	wantRefusedAnywhere(t, "a second start", at(4, 100, impl.EvStart, ""), impl.ErrState)
	wantRefusedAnywhere(t, "a run that has not begun", at(3, 100, impl.EvEnter, "b"), impl.ErrState)
	wantRefusedAnywhere(t, "an end of none", at(3, 100, impl.EvEnd, ""), impl.ErrState)
}

func TestIngestTellsTheCodesOfStateStep(t *testing.T) {
	cases := []struct {
		what  string
		place int64
		event impl.Event
		code  int64
	}{
		{"a fault of no mark", 0, at(4, 12, impl.EvFault, "c"), impl.ErrNone},
		{"a step that does not wait", 0, at(4, 12, impl.EvEnter, "b"), impl.ErrNone},
		{"a step that is not busy", 1, at(4, 12, impl.EvLeave, "a"), impl.ErrNone},
		{"a step that is nowhere", 1, at(4, 12, impl.EvEnter, "d"), impl.ErrNone},
		{"below what it had", 0, at(4, 11, impl.EvFault, "b"), impl.ErrRange},
		{"below what it had, and no mark", 0, at(4, 11, impl.EvFault, "c"), impl.ErrRange},
		{"below one of the batch", 3, at(4, 12, impl.EvEnter, "c"), impl.ErrRange},
		{"below one of the batch, of another run", 2, at(9, 0, impl.EvEnter, "b"), impl.ErrRange},
		{"an end with a mark", 0, at(4, 12, impl.EvEnd, ""), impl.ErrState},
		{"an end with a mark in Wait", 3, at(4, 13, impl.EvEnd, ""), impl.ErrState},
		{"behind its end", 9, at(4, 14, impl.EvSet, "x"), impl.ErrState},
		{"a start behind its end", 9, at(4, 14, impl.EvStart, ""), impl.ErrState},
		{"behind its end, and too early", 9, at(4, 1, impl.EvFault, "b"), impl.ErrState},
		{"behind its end, and not right", 9, at(4, 1, impl.EvFault, ""), impl.ErrForm},
		{"what another run may do", 2, at(9, 13, impl.EvLeave, "b"), impl.ErrNone},
		{"what another run may do then", 6, at(9, 13, impl.EvEnter, "c"), impl.ErrNone},
	}
	for _, c := range cases {
		l := slices.Concat(goesWell()[:c.place], []impl.Event{c.event}, goesWell()[c.place:])
		wantRefused(t, c.what, impl.Ingest(begun(), l), c.code, c.place)
		wantRefused(t, c.what+", the last one", impl.Ingest(begun(), l[:c.place+1]), c.code, c.place)
		if c.place == 0 {
			continue
		}
		half := impl.Ingest(begun(), goesWell()[:c.place]).Service
		wantRefused(t, c.what+", in a batch of its own", impl.Ingest(half, []impl.Event{c.event}), c.code, 0)
	}
}

func TestIngestGoesRunByRun(t *testing.T) {
	later := []impl.Event{at(8, 900, impl.EvStart, ""), at(4, 20, impl.EvLeave, "b"), at(8, 901, impl.EvEnter, "b"), at(7, 0, impl.EvStart, ""), at(4, 20, impl.EvEnter, "c")}
	wantService(t, "times of several runs", impl.Ingest(begun(), later), ingested(begun(), later))
	if got := impl.Ingest(begun(), later); got.Code != impl.OK || got.Many != 5 {
		t.Errorf("times of several runs: got Code %d, Many %d", got.Code, got.Many)
	}
}

// crowd: a run of twice that has 40 marks, one of them busy at a.
func crowd() []impl.Event {
	l := []impl.Event{at(1, 0, impl.EvStart, "")}
	for range 39 {
		l = append(l, at(1, 1, impl.EvEnter, "a"), at(1, 1, impl.EvLeave, "a"))
	}
	return append(l, at(1, 1, impl.EvEnter, "a"))
}

func TestIngestTellsErrFullOfStateStepWithItsPlace(t *testing.T) {
	leave := at(1, 1, impl.EvLeave, "a")
	over := append(crowd(), leave)
	wantService(t, "40 marks", impl.Ingest(impl.ServiceNew(twice()), crowd()), impl.ServiceOut{Service: serving(twice(), numbered(crowd()...)...), Many: 80})
	wantRefused(t, "41 marks", impl.Ingest(impl.ServiceNew(twice()), over), impl.ErrFull, 80)
	wantRefused(t, "41 marks, in a batch of its own", impl.Ingest(serving(twice(), numbered(crowd()...)...), []impl.Event{at(2, 0, impl.EvStart, ""), leave}), impl.ErrFull, 1)
	vars := []impl.Event{at(1, 0, impl.EvStart, "")}
	for _, v := range someVars(21) {
		vars = append(vars, setting(2, v.Name, v.Value))
	}
	wantService(t, "20 Vars", impl.Ingest(impl.ServiceNew(twice()), vars[:21]), impl.ServiceOut{Service: serving(twice(), numbered(vars[:21]...)...), Many: 21})
	wantRefused(t, "21 Vars", impl.Ingest(impl.ServiceNew(twice()), vars), impl.ErrFull, 21)
	wantRefused(t, "21 Vars, in a batch of its own", impl.Ingest(serving(twice(), numbered(vars[:21]...)...), vars[21:]), impl.ErrFull, 0)
}

// Seq is not theirs to tell, so an event that is wrong for it alone is taken.
func TestIngestOfEachEdge(t *testing.T) {
	for _, e := range allEdges() {
		for _, s := range []impl.Service{impl.ServiceNew(loops()), begun()} {
			for _, l := range [][]impl.Event{{e.event}, {at(5, 0, impl.EvStart, ""), e.event}, {e.event, {}}} {
				wantService(t, e.what, impl.Ingest(s, l), ingested(s, l))
			}
		}
		if !e.right && e.what != "Seq" {
			wantRefused(t, e.what, impl.Ingest(begun(), append(goesWell(), e.event)), impl.ErrForm, int64(len(goesWell())))
		}
	}
}

// runsFrom: so many starts, of runs that spread does not have.
func runsFrom(size int) []impl.Event {
	var out []impl.Event
	for i := range size {
		out = append(out, at(int64(5000+i), 3, impl.EvStart, ""))
	}
	return out
}

func TestIngestMoreThanMaxEventsInAll(t *testing.T) {
	for _, had := range []int{0, 1, 100, impl.MaxEvents - 1, impl.MaxEvents} {
		s := serving(loops(), spread(had)...)
		for _, size := range []int{1, 2, 99, 100, 101, impl.MaxEvents - 1, impl.MaxEvents} {
			got := impl.Ingest(s, runsFrom(size))
			if had+size > impl.MaxEvents {
				wantRefused(t, "more than MaxEvents in all", got, impl.ErrFull, 0)
				wantRefused(t, "and wrong at first", impl.Ingest(s, append([]impl.Event{{}}, runsFrom(size-1)...)), impl.ErrForm, 0)
				wantRefused(t, "and wrong at last", impl.Ingest(s, append(runsFrom(size-1), impl.Event{})), impl.ErrForm, int64(size-1))
				wantRefused(t, "and refused at last", impl.Ingest(s, append(runsFrom(size-1), at(4999, 0, impl.EvEnd, ""))), impl.ErrState, int64(size-1))
				continue
			}
			want := impl.ServiceOut{Service: serving(loops(), numbered(append(spread(had), runsFrom(size)...)...)...), Many: int64(size)}
			wantService(t, "at most MaxEvents in all", got, want)
		}
	}
	own := serving(loops(), numbered(sets(impl.MaxEvents)...)...)
	more := slices.Repeat([]impl.Event{setting(900, "n", "v")}, impl.MaxEvents)
	wantRefused(t, "all of one run", impl.Ingest(own, more), impl.ErrFull, 0)
	more[impl.MaxEvents-1].Time = 899
	wantRefused(t, "all of one run, the last too early", impl.Ingest(own, more), impl.ErrRange, impl.MaxEvents-1)
}

func TestIngestUpToTheLastNext(t *testing.T) {
	wrong, refused := impl.Event{}, at(4, 12, impl.EvFault, "c")
	good := func(size int, behind ...impl.Event) []impl.Event { return append(runsFrom(size), behind...) }
	cases := []struct {
		what  string
		next  int64
		batch []impl.Event
		code  int64
		many  int64
	}{
		{"one, and one is left", impl.MaxTime - 1, good(1), impl.OK, 1},
		{"one behind the last", impl.MaxTime, good(1), impl.ErrFull, 0},
		{"wrong at the last", impl.MaxTime, good(0, wrong), impl.ErrForm, 0},
		{"refused at the last", impl.MaxTime, good(0, refused), impl.ErrNone, 0},
		{"wrong at the last, one more", impl.MaxTime, good(0, wrong, wrong), impl.ErrForm, 0},
		{"two behind the last", impl.MaxTime, good(2), impl.ErrFull, 0},
		{"wrong behind the last", impl.MaxTime, good(1, wrong), impl.ErrFull, 0},
		{"refused behind the last", impl.MaxTime, good(1, refused), impl.ErrFull, 0},
		{"two up to the last", impl.MaxTime - 1, good(2), impl.ErrFull, 0},
		{"the second wrong at the last", impl.MaxTime - 1, good(1, wrong), impl.ErrForm, 1},
		{"the second refused at the last", impl.MaxTime - 1, good(1, refused), impl.ErrNone, 1},
		{"the third wrong behind the last", impl.MaxTime - 1, good(2, wrong), impl.ErrFull, 0},
		{"the third refused behind the last", impl.MaxTime - 1, good(2, refused), impl.ErrFull, 0},
		{"the first wrong, too many", impl.MaxTime - 1, append([]impl.Event{wrong}, good(8)...), impl.ErrForm, 0},
		{"ten, and one is left", impl.MaxTime - 10, good(10), impl.OK, 10},
		{"ten, and none is left", impl.MaxTime - 9, good(10), impl.ErrFull, 0},
		{"eleven", impl.MaxTime - 10, good(11), impl.ErrFull, 0},
		{"twelve, the last wrong", impl.MaxTime - 10, good(11, wrong), impl.ErrFull, 0},
		{"eleven, the last wrong", impl.MaxTime - 10, good(10, wrong), impl.ErrForm, 10},
	}
	for _, c := range cases {
		got := impl.Ingest(nextAt(begun(), c.next), c.batch)
		if c.code != impl.OK {
			wantRefused(t, c.what, got, c.code, c.many)
			continue
		}
		wantService(t, c.what, got, ingested(nextAt(begun(), c.next), c.batch))
		if got.Code != impl.OK || got.Many != c.many || got.Service.Next != c.next+c.many {
			t.Errorf("%s: got Code %d, Many %d, Next %d", c.what, got.Code, got.Many, got.Service.Next)
		}
	}
}

func TestIngestOfARunThatWentBefore(t *testing.T) {
	s := serving(plain(), numbered(ending(3, 5, 9)...)...)
	again := ending(3, 0, 2)
	wantRefused(t, "a run that is there", impl.Ingest(s, again), impl.ErrState, 0)
	got := impl.Ingest(impl.Cleanup(s, 9).Service, again)
	want := nextAt(serving(plain(), again...), 9)
	for i := range want.Events {
		want.Events[i].Seq = int64(5 + i)
	}
	wantService(t, "a run that went", got, impl.ServiceOut{Service: want, Many: 4})
}

func TestIngestAsTheDocumentSays(t *testing.T) {
	source := rand.New(rand.NewSource(93))
	told := map[int64]int{}
	for _, d := range shapes() {
		for range 12 {
			s := someService(source, d)
			if source.Intn(3) == 0 {
				s.Next = impl.MaxTime - int64(source.Intn(12))
			}
			l := someBatch(source, s, 1+source.Intn(40))
			for range 12 {
				bad := l
				if len(l) > 0 && source.Intn(6) > 0 {
					bad = spoilt(source, l)
				}
				want := ingested(s, bad)
				wantService(t, "a batch that was changed", impl.Ingest(s, bad), want)
				told[want.Code]++
			}
		}
	}
	for _, code := range []int64{impl.OK, impl.ErrForm, impl.ErrNone, impl.ErrRange, impl.ErrFull, impl.ErrState} {
		if told[code] < 10 {
			t.Errorf("the code %d was told %d times, too few to tell", code, told[code])
		}
	}
}

func TestIngestIsNewAndLeavesWhatItIsGiven(t *testing.T) {
	batches := [][]impl.Event{goesWell(), goesWell()[:1], append(goesWell(), setting(20, "x", "some words")), append(goesWell(), impl.Event{}), spread(impl.MaxEvents), nil}
	batches[2][9].Run = 9
	for _, batch := range batches {
		given, l := copiedService(begun()), roomy(batch)
		got := impl.Ingest(given, l)
		want := ingested(begun(), batch)
		wantServiceAsItWas(t, "Ingest", given, begun())
		wantAsItWas(t, "Ingest", l, batch)
		texts := append(serviceTexts(given), eventTexts(l)...)
		wipe(given)
		clear(l)
		wantService(t, "behind a change of what was given", got, want)
		wantOwnService(t, "Ingest", got.Service, texts)
		given, l = copiedService(begun()), roomy(batch)
		wipe(impl.Ingest(given, l).Service)
		wantServiceAsItWas(t, "Ingest, what it told wiped", given, begun())
		wantAsItWas(t, "Ingest, what it told wiped", l, batch)
	}
}
