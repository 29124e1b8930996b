package tests

import (
	"math/rand"
	"slices"
	"testing"

	"loop.example/g00366/impl"
)

func TestHistoryRightOfNoEvents(t *testing.T) {
	for _, d := range shapes() {
		wantHistory(t, "none", impl.HistoryRight(d, nil), true)
		wantHistory(t, "an empty list", impl.HistoryRight(d, []impl.Event{}), true)
	}
}

func TestHistoryRightByHowManyThereAre(t *testing.T) {
	for _, size := range []int{1, 2, impl.MaxEvents - 1, impl.MaxEvents} {
		wantHistory(t, "many runs", impl.HistoryRight(loops(), spread(size)), true)
		wantHistory(t, "one run", impl.HistoryRight(loops(), numbered(sets(size)...)), true)
	}
	for _, size := range []int{impl.MaxEvents + 1, impl.MaxList, impl.MaxList + 1, 900} {
		wantHistory(t, "too many, of many runs", impl.HistoryRight(loops(), spread(size)), false)
		wantHistory(t, "too many, of one run", impl.HistoryRight(loops(), numbered(sets(size)...)), false)
	}
}

func TestHistoryRightBySeq(t *testing.T) {
	cases := []struct {
		what  string
		seqs  []int64
		right bool
	}{
		{"one by one", []int64{1, 2, 3, 4}, true},
		{"with gaps", []int64{1, 3, 700, impl.MaxTime}, true},
		{"from above", []int64{impl.MaxTime - 3, impl.MaxTime - 2, impl.MaxTime - 1, impl.MaxTime}, true},
		{"the first two alike", []int64{1, 1, 2, 3}, false},
		{"the last two alike", []int64{1, 2, 3, 3}, false},
		{"all alike", []int64{1, 1, 1, 1}, false},
		{"the second falls", []int64{2, 1, 3, 4}, false},
		{"the last falls", []int64{1, 2, 4, 3}, false},
		{"the last as the first", []int64{1, 2, 3, 1}, false},
		{"all fall", []int64{4, 3, 2, 1}, false},
		{"rising, from below", []int64{0, 1, 2, 3}, false},
		{"rising, too far", []int64{1, 2, 3, impl.MaxTime + 1}, false},
		{"the last below 0", []int64{1, 2, 3, -4}, false},
	}
	for _, c := range cases {
		one := []impl.Event{at(1, 1, impl.EvStart, ""), at(1, 2, impl.EvEnter, "b"), at(1, 3, impl.EvLeave, "b"), at(1, 4, impl.EvEnter, "c")}
		apart := []impl.Event{at(4, 9, impl.EvStart, ""), at(3, 7, impl.EvStart, ""), at(2, 5, impl.EvStart, ""), at(1, 3, impl.EvStart, "")}
		for i, seq := range c.seqs {
			one[i].Seq, apart[i].Seq = seq, seq
		}
		wantHistory(t, c.what+", of one run", impl.HistoryRight(loops(), one), c.right)
		wantHistory(t, c.what+", of four runs", impl.HistoryRight(loops(), apart), c.right)
	}
}

func TestHistoryRightOfWrongDefs(t *testing.T) {
	for what, d := range wrongDefs() {
		wantHistory(t, what, impl.HistoryRight(d, nil), false)
		wantHistory(t, what, impl.HistoryRight(d, numbered(whole()...)), false)
		wantHistory(t, what, impl.HistoryRight(d, spread(3)), false)
	}
}

func TestHistoryRightOfWrongEvents(t *testing.T) {
	for _, e := range allEdges() {
		if e.right {
			continue
		}
		wantHistory(t, "alone: "+e.what, impl.HistoryRight(loops(), []impl.Event{e.event}), false)
		behind := append(spread(2), e.event)
		behind[0].Seq, behind[1].Seq = e.event.Seq-2, e.event.Seq-1
		wantHistory(t, "behind others: "+e.what, impl.HistoryRight(loops(), behind), false)
		ahead := append([]impl.Event{e.event}, spread(2)...)
		ahead[1].Seq, ahead[2].Seq = e.event.Seq+1, e.event.Seq+2
		wantHistory(t, "ahead of others: "+e.what, impl.HistoryRight(loops(), ahead), false)
	}
}

// refusedRuns: runs of loops that StateOf refuses, each with another code.
func refusedRuns() map[int64][]impl.Event {
	full := []impl.Event{ev(0, impl.EvStart, "")}
	for _, v := range someVars(21) {
		full = append(full, setting(2, v.Name, v.Value))
	}
	return map[int64][]impl.Event{
		impl.ErrForm:  append(whole()[:4], ev(30, impl.EvEnter, "B")),
		impl.ErrState: whole()[1:],
		impl.ErrRange: append(whole()[:4], ev(6, impl.EvFault, "b")),
		impl.ErrNone:  append(whole()[:4], ev(30, impl.EvLeave, "a")),
		impl.ErrFull:  full,
	}
}

func TestHistoryRightOfRunsThatAreRefused(t *testing.T) {
	source := rand.New(rand.NewSource(51))
	for code, bad := range refusedRuns() {
		wantCode(t, "a run that is refused", impl.StateOf(loops(), bad), code)
		wantHistory(t, "a refused run alone", impl.HistoryRight(loops(), numbered(bad...)), false)
		for _, run := range []int64{1, 2, 5, impl.MaxTime} {
			var runs [][]impl.Event
			for _, number := range []int64{1, 2, 5, impl.MaxTime} {
				own := slices.Clone(whole())
				if number == run {
					own = slices.Clone(bad)
				}
				for i := range own {
					own[i].Run = number
				}
				runs = append(runs, own)
			}
			l := mixed(source, runs...)
			wantHistory(t, "a refused run beside others", impl.HistoryRight(loops(), l), false)
			others := slices.DeleteFunc(l, func(e impl.Event) bool { return e.Run == run })
			wantHistory(t, "the others without it", impl.HistoryRight(loops(), others), true)
		}
	}
}

func TestHistoryRightGoesRunByRun(t *testing.T) {
	mixedTimes := numbered(at(1, 100, impl.EvStart, ""), at(2, 3, impl.EvStart, ""), at(1, 100, impl.EvEnter, "b"), at(2, 4, impl.EvEnter, "b"))
	wantHistory(t, "a later run at an earlier time", impl.HistoryRight(loops(), mixedTimes), true)
	early := numbered(at(1, 100, impl.EvStart, ""), at(2, 3, impl.EvStart, ""), at(1, 99, impl.EvEnter, "b"))
	wantHistory(t, "one run at an earlier time", impl.HistoryRight(loops(), early), false)
	other := numbered(at(1, 1, impl.EvStart, ""), at(2, 1, impl.EvStart, ""), at(1, 2, impl.EvEnter, "b"), at(2, 3, impl.EvLeave, "b"))
	wantHistory(t, "left in a run where it was not entered", impl.HistoryRight(loops(), other), false)
	again := append(whole(), whole()...)
	wantHistory(t, "one run from its start once more", impl.HistoryRight(loops(), numbered(again...)), false)
	for i := range again[len(whole()):] {
		again[len(whole())+i].Run = 2
	}
	wantHistory(t, "the same as another run", impl.HistoryRight(loops(), numbered(again...)), true)
}

func TestHistoryRightAsTheDocumentSays(t *testing.T) {
	source := rand.New(rand.NewSource(52))
	var told [2]int
	for _, d := range shapes() {
		for range 12 {
			l := someHistory(source, d)
			wantHistory(t, "a right one", impl.HistoryRight(d, l), true)
			for range 20 {
				bad := spoilt(source, l)
				want := historyRight(d, bad)
				wantHistory(t, "one that was changed", impl.HistoryRight(d, bad), want)
				if want {
					told[0]++
				} else {
					told[1]++
				}
			}
		}
	}
	if min(told[0], told[1]) < 100 {
		t.Errorf("%d right ones and %d wrong ones are too few to tell", told[0], told[1])
	}
}

func TestHistoryRightLeavesWhatItIsGiven(t *testing.T) {
	source := rand.New(rand.NewSource(53))
	for _, d := range shapes() {
		was := someHistory(source, d)
		for _, l := range [][]impl.Event{was, spoilt(source, was)} {
			given, def := roomy(l), copiedDef(d)
			impl.HistoryRight(def, given)
			wantAsItWas(t, "HistoryRight", given, l)
			wantDefAsItWas(t, "HistoryRight", def, copiedDef(d))
		}
	}
}
