package tests

import (
	"math/rand"
	"slices"
	"testing"

	"loop.example/g00366/impl"
)

// wantTaken: the first part of promise 9.
func wantTaken(t *testing.T, s impl.Service, l []impl.Event) impl.Service {
	t.Helper()
	got := impl.Ingest(s, l)
	if got.Code != impl.OK || got.Many != int64(len(l)) {
		t.Fatalf("a batch that may happen: got Code %d, Many %d of %d", got.Code, got.Many, len(l))
	}
	now := got.Service
	if len(now.Events) != len(s.Events)+len(l) {
		t.Fatalf("%d behind %d: got %d events", len(l), len(s.Events), len(now.Events))
	}
	if !slices.Equal(now.Events[:len(s.Events)], s.Events) {
		t.Errorf("what there was is not as it was")
	}
	for i, e := range now.Events[len(s.Events):] {
		want := l[i]
		want.Seq = s.Next + int64(i)
		if e != want {
			t.Errorf("taken at %d: got %+v, want %+v", i, e, want)
		}
	}
	if now.Next != s.Next+int64(len(l)) {
		t.Errorf("Next was %d, behind %d it is %d", s.Next, len(l), now.Next)
	}
	wantRightService(t, "behind a batch", now, true)
	return now
}

// wantNothingTaken: the second part of promise 9: with one event in it that may not happen a batch leaves no trace.
func wantNothingTaken(t *testing.T, s impl.Service, l []impl.Event) {
	t.Helper()
	bad := []impl.Event{{}, at(77, 3, impl.EvEnd, ""), at(77, 3, impl.EvEnter, s.Def.Steps[0])}
	codes := []int64{impl.ErrForm, impl.ErrState, impl.ErrState}
	for i, e := range bad {
		for _, place := range []int{0, len(l) / 2, len(l)} {
			given := copiedService(s)
			batch := slices.Insert(slices.Clone(l), place, e)
			wantRefused(t, "one that may not happen", impl.Ingest(given, batch), codes[i], int64(place))
			wantServiceAsItWas(t, "one that may not happen", given, s)
		}
	}
}

// wantJustTheEnded: the last part of promise 9.
func wantJustTheEnded(t *testing.T, s impl.Service, before int64) int64 {
	t.Helper()
	got := impl.Cleanup(s, before)
	if got.Code != impl.OK || got.Service.Next != s.Next {
		t.Errorf("cleaned: got Code %d, Next %d, which was %d", got.Code, got.Service.Next, s.Next)
	}
	wantRightService(t, "cleaned", got.Service, true)
	gone := endedBy(s.Events, before)
	if got.Many != int64(len(gone)) {
		t.Errorf("cleaned: got Many %d, want %d", got.Many, len(gone))
	}
	var stay []impl.Event
	for _, e := range s.Events {
		if !slices.Contains(gone, e.Run) {
			stay = append(stay, e)
		}
	}
	wantList(t, "cleaned", got.Service.Events, stay)
	for _, run := range gone {
		wantNoList(t, "a run that has ended", impl.OfRun(got.Service.Events, run))
	}
	for _, run := range impl.Runs(got.Service.Events) {
		wantList(t, "a run that stays", impl.OfRun(got.Service.Events, run), impl.OfRun(s.Events, run))
		state := impl.AsOf(s.Def, got.Service.Events, run, before)
		if state.State.Status == impl.StEnded {
			t.Errorf("the run %d had ended by %d, and stays", run, before)
		}
	}
	return got.Many
}

func TestAServiceTakesABatchWholeOrNotAtAll(t *testing.T) {
	source := rand.New(rand.NewSource(95))
	taken := 0
	for _, d := range append(shapes(), plain()) {
		for range 6 {
			s := someService(source, d)
			l := someBatch(source, s, 1+source.Intn(30))
			if len(l) == 0 || len(l)+len(s.Events) > impl.MaxEvents || s.Next+int64(len(l)) > impl.MaxTime {
				continue
			}
			wantTaken(t, s, l)
			wantNothingTaken(t, s, l)
			taken++
		}
	}
	if taken < 30 {
		t.Errorf("%d batches are too few to tell", taken)
	}
}

func TestACleaningTakesJustTheRunsThatHaveEnded(t *testing.T) {
	source := rand.New(rand.NewSource(96))
	var went int64
	for _, d := range append(shapes(), plain(), plain()) {
		for range 10 {
			s := someService(source, d)
			for _, before := range []int64{0, 1, 3, 10, 30, 100, impl.MaxTime} {
				went += wantJustTheEnded(t, s, before)
			}
		}
	}
	if went < 100 {
		t.Errorf("%d runs that went are too few to tell", went)
	}
}

func TestAServiceStaysRightFromBatchToBatch(t *testing.T) {
	source := rand.New(rand.NewSource(97))
	for _, d := range append(shapes(), plain()) {
		s := impl.ServiceNew(d)
		for range 40 {
			l := someBatch(source, s, 1+source.Intn(9))
			if len(l) > 0 && len(l)+len(s.Events) <= impl.MaxEvents {
				s = wantTaken(t, s, l)
			}
			if source.Intn(4) == 0 {
				before := int64(source.Intn(60))
				wantJustTheEnded(t, s, before)
				s = impl.Cleanup(s, before).Service
			}
		}
	}
}
