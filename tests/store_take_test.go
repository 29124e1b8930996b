package tests

import (
	"math"
	"math/rand"
	"strconv"
	"strings"
	"testing"

	"loop.example/g00366/impl"
)

// wantStoreRefused: that code and that Many, and beside them the zero Store.
func wantStoreRefused(t *testing.T, what string, got impl.StoreOut, code int64, many int64) {
	t.Helper()
	wantStored(t, what, got, impl.StoreOut{Many: many, Code: code})
}

// keeping: a Store with the batch as its one record.
func keeping(l ...impl.Event) impl.Store {
	return impl.Store{Log: batchRow(l...)}
}

func TestStoreIngestLaysOneRecordBehindTheOthers(t *testing.T) {
	for _, seq := range []int64{math.MinInt64, -1, 0, 1, 2, 77, impl.MaxTime, impl.MaxTime + 1, math.MaxInt64} {
		l := ending(40, 3, 9)
		for i := range l {
			l[i].Seq = seq
		}
		for i := range len(diary()) + 1 {
			log := strings.Join(diary()[:i], "")
			for _, many := range []int64{0, 1, int64(len(log))} {
				if many > int64(len(log)) {
					continue
				}
				got := impl.StoreIngest(syncedAt(log, many), plain(), l)
				wantStored(t, "a batch", got, impl.StoreOut{Store: syncedAt(log+batchRow(l...), many), Many: 4})
				wantRightStore(t, "behind a batch", got.Store, plain(), true)
			}
		}
	}
}

func TestStoreCleanupLaysOneRecordBehindTheOthers(t *testing.T) {
	log := strings.Join(diary()[:3], "")
	for before, gone := range map[int64]int64{0: 0, 1: 0, 8: 0, 9: 1, 10: 1, 63: 1, 64: 1, 8191: 1, 8192: 1, impl.MaxTime - 1: 1, impl.MaxTime: 1} {
		for _, many := range []int64{0, 7, int64(len(log))} {
			got := impl.StoreCleanup(syncedAt(log, many), plain(), before)
			wantStored(t, "a cleaning", got, impl.StoreOut{Store: syncedAt(log+cleanRow(before), many), Many: gone})
			wantRightStore(t, "behind a cleaning", got.Store, plain(), true)
		}
		got := impl.StoreCleanup(impl.Store{}, plain(), before)
		wantStored(t, "nothing to clean", got, impl.StoreOut{Store: impl.Store{Log: cleanRow(before)}})
	}
}

func TestStoresThatAreNotRightTakeNothing(t *testing.T) {
	batches := [][]impl.Event{nil, runsFrom(1), {{}}, runsFrom(impl.MaxEvents + 1), runsFrom(impl.MaxList)}
	wantNone := func(what string, s impl.Store, d impl.Def) {
		t.Helper()
		for _, l := range batches {
			wantStoreRefused(t, what, impl.StoreIngest(s, d, l), impl.ErrForm, 0)
		}
		for _, before := range []int64{-1, 0, 9, impl.MaxTime, impl.MaxTime + 1} {
			wantStoreRefused(t, what, impl.StoreCleanup(s, d, before), impl.ErrForm, 0)
		}
		wantStoreRefused(t, what+", a list too long", impl.StoreIngest(s, d, runsFrom(impl.MaxList+1)), impl.ErrSize, 0)
	}
	for what, log := range wrongLogs() {
		wantNone(what, syncedAt(log, 0), plain())
	}
	for what, d := range wrongDefs() {
		wantNone(what, impl.Store{}, d)
	}
	log := strings.Join(diary(), "")
	for _, many := range wrongSyncs(len(log)) {
		wantNone("synced more or less than there are", syncedAt(log, many), plain())
	}
	wantNone("one synced of none", syncedAt("", 1), plain())
	wantNone("more than MaxBytes", syncedAt(fullLog(t, impl.MaxBytes-6)+cleanRow(3), 0), plain())
	wantNone("a text too long", syncedAt(tooMuch(), 0), plain())
}

func TestStoreIngestOfLists(t *testing.T) {
	s := syncedAt(strings.Join(diary(), ""), 5)
	cases := []struct {
		what string
		l    []impl.Event
		code int64
		many int64
	}{
		{"no list", nil, impl.ErrForm, 0},
		{"an empty list", []impl.Event{}, impl.ErrForm, 0},
		{"one more than MaxEvents", runsFrom(impl.MaxEvents + 1), impl.ErrForm, 0},
		{"as many as MaxList", runsFrom(impl.MaxList), impl.ErrForm, 0},
		{"one more than MaxList", runsFrom(impl.MaxList + 1), impl.ErrSize, 0},
		{"many more than MaxList", runsFrom(3000), impl.ErrSize, 0},
		{"MaxEvents, but two are there", runsFrom(impl.MaxEvents), impl.ErrFull, 0},
		{"one too many in all", runsFrom(impl.MaxEvents - 1), impl.ErrFull, 0},
		{"as many as may be in all", runsFrom(impl.MaxEvents - 2), impl.OK, impl.MaxEvents - 2},
	}
	for _, c := range cases {
		got := impl.StoreIngest(s, plain(), c.l)
		if c.code != impl.OK {
			wantStoreRefused(t, c.what, got, c.code, c.many)
			continue
		}
		wantStored(t, c.what, got, impl.StoreOut{Store: syncedAt(s.Log+batchRow(c.l...), 5), Many: c.many})
	}
	all := impl.StoreIngest(impl.Store{}, plain(), runsFrom(impl.MaxEvents))
	wantStored(t, "MaxEvents", all, impl.StoreOut{Store: keeping(runsFrom(impl.MaxEvents)...), Many: impl.MaxEvents})
	wantStoreRefused(t, "one behind MaxEvents", impl.StoreIngest(all.Store, plain(), spread(1)), impl.ErrFull, 0)
}

func TestStoreIngestTellsWhatIngestTells(t *testing.T) {
	good := runsFrom(5)
	s := keeping(begun().Events...)
	wantStored(t, "all well", impl.StoreIngest(s, loops(), good), impl.StoreOut{Store: impl.Store{Log: s.Log + batchRow(good...)}, Many: 5})
	wantStored(t, "all well", impl.StoreIngest(s, loops(), goesWell()), impl.StoreOut{Store: impl.Store{Log: s.Log + batchRow(goesWell()...)}, Many: int64(len(goesWell()))})
	cases := []struct {
		what string
		last impl.Event
		code int64
	}{
		{"not right", impl.Event{}, impl.ErrForm},
		{"a run that is not there", at(88, 50, impl.EvEnd, ""), impl.ErrState},
		{"a start of a run that is there", at(begun().Events[0].Run, 500, impl.EvStart, ""), impl.ErrState},
		{"too early", at(begun().Events[0].Run, 0, impl.EvSet, "n"), impl.ErrRange},
		{"no mark", at(begun().Events[0].Run, 500, impl.EvEnter, "elsewhere"), impl.ErrNone},
	}
	for _, c := range cases {
		wantStoreRefused(t, c.what+", behind others", impl.StoreIngest(s, loops(), append(runsFrom(5), c.last)), c.code, int64(len(good)))
		wantStoreRefused(t, c.what+", alone", impl.StoreIngest(s, loops(), []impl.Event{c.last}), c.code, 0)
		wantStoreRefused(t, c.what+", ahead of others", impl.StoreIngest(s, loops(), append([]impl.Event{c.last}, good...)), c.code, 0)
	}
	over := append(crowd(), at(1, 1, impl.EvLeave, "a"))
	wantStoreRefused(t, "41 marks", impl.StoreIngest(impl.Store{}, twice(), over), impl.ErrFull, 80)
	wantStoreRefused(t, "41 marks, alone", impl.StoreIngest(keeping(crowd()...), twice(), over[80:]), impl.ErrFull, 0)
	vars := append(runsFrom(1), setsOf(5000, 21)...)
	for i := range vars {
		vars[i].Time = 3
	}
	wantStoreRefused(t, "21 Vars", impl.StoreIngest(impl.Store{}, plain(), vars), impl.ErrFull, 21)
	for _, e := range allEdges() {
		for _, l := range [][]impl.Event{{e.event}, {at(5, 0, impl.EvStart, ""), e.event}} {
			wantStored(t, e.what, impl.StoreIngest(s, loops(), l), storeIngested(s, loops(), l))
		}
	}
}

func TestStoreCleanupOfNoTime(t *testing.T) {
	for _, s := range []impl.Store{{}, syncedAt(strings.Join(diary(), ""), 3), {Log: fullLog(t, impl.MaxBytes)}} {
		for _, before := range []int64{math.MinInt64, -impl.MaxTime, -1, impl.MaxTime + 1, 1 << 40, math.MaxInt64} {
			wantStoreRefused(t, "no time", impl.StoreCleanup(s, plain(), before), impl.ErrForm, 0)
		}
	}
}

// A log that is full takes nothing more; but what the Service refuses is told first.
func TestStoreIngestUpToMaxBytes(t *testing.T) {
	one := setting(7, "n", "some words")
	row := batchRow(one)
	for room := len(row) - 3; room <= len(row)+3; room++ {
		s := syncedAt(fullLog(t, impl.MaxBytes-room), 9)
		got := impl.StoreIngest(s, plain(), []impl.Event{one})
		if room < len(row) {
			wantStoreRefused(t, strconv.Itoa(room)+" bytes of room", got, impl.ErrFull, 0)
		} else {
			wantStored(t, strconv.Itoa(room)+" bytes of room", got, impl.StoreOut{Store: syncedAt(s.Log+row, 9), Many: 1})
			wantRightStore(t, "full", got.Store, plain(), true)
		}
	}
	full := impl.Store{Log: fullLog(t, impl.MaxBytes)}
	wantStoreRefused(t, "no room", impl.StoreIngest(full, plain(), runsFrom(1)), impl.ErrFull, 0)
	wantStoreRefused(t, "no room, no events", impl.StoreIngest(full, plain(), nil), impl.ErrForm, 0)
	wantStoreRefused(t, "no room, not right", impl.StoreIngest(full, plain(), append(runsFrom(2), impl.Event{})), impl.ErrForm, 2)
	wantStoreRefused(t, "no room, refused", impl.StoreIngest(full, plain(), append(runsFrom(3), at(1, 0, impl.EvStart, ""))), impl.ErrState, 3)
	wantStoreRefused(t, "no room, no mark", impl.StoreIngest(full, plain(), []impl.Event{at(1, 0, impl.EvLeave, "only")}), impl.ErrNone, 0)
	wantStoreRefused(t, "no room for forty", impl.StoreIngest(full, plain(), runsFrom(40)), impl.ErrFull, 0)
	wantStoreRefused(t, "no room, a list too long", impl.StoreIngest(full, plain(), runsFrom(impl.MaxList+1)), impl.ErrSize, 0)
}

func TestStoreCleanupUpToMaxBytes(t *testing.T) {
	for _, before := range []int64{0, 63, 64, 8191, 8192, impl.MaxTime} {
		row := cleanRow(before)
		for room := range len(row) + 3 {
			s := syncedAt(fullLog(t, impl.MaxBytes-room), 9)
			got := impl.StoreCleanup(s, plain(), before)
			if room < len(row) {
				wantStoreRefused(t, strconv.Itoa(room)+" bytes of room", got, impl.ErrFull, 0)
			} else {
				wantStored(t, strconv.Itoa(room)+" bytes of room", got, impl.StoreOut{Store: syncedAt(s.Log+row, 9)})
			}
		}
	}
	log := batchRow(ending(9, 1, 2)...)
	full := impl.Store{Log: log + fullLog(t, impl.MaxBytes-len(log)-6)}
	wantRightStore(t, "nearly full", full, plain(), true)
	wantStoreRefused(t, "no room, a run would go", impl.StoreCleanup(full, plain(), 2), impl.ErrFull, 0)
}

// The bytes of a batch may be more than any record has: more than a log, than a seal or than the bytes of events.
func TestStoreIngestOfLongBatches(t *testing.T) {
	for _, size := range []int{7000, 7992, 7993, 7994, 7995, 7996, 7997, 7998, 7999, 8000, 8001, 8002, 8100, 9000} {
		l := fullBatch(t, size)
		got := impl.StoreIngest(impl.Store{}, plain(), l)
		if size+7 > impl.MaxBytes {
			wantStoreRefused(t, strconv.Itoa(size)+" bytes of events", got, impl.ErrFull, 0)
			wantStoreRefused(t, "and refused at last", impl.StoreIngest(impl.Store{}, plain(), append(l, at(1, 0, impl.EvLeave, "only"))), impl.ErrNone, int64(len(l)))
			continue
		}
		wantStored(t, strconv.Itoa(size)+" bytes of events", got, impl.StoreOut{Store: keeping(l...), Many: int64(len(l))})
		wantRightStore(t, strconv.Itoa(size)+" bytes of events", got.Store, plain(), true)
	}
	var most []impl.Event
	for run := range int64(10) {
		most = append(most, at(impl.MaxTime-run, impl.MaxTime, impl.EvStart, ""))
		for i := range 19 {
			set := at(impl.MaxTime-run, impl.MaxTime, impl.EvSet, strings.Repeat("v", 19)+string(rune('a'+i)))
			set.Value = filled(40)
			most = append(most, set)
		}
	}
	wantStoreRefused(t, "as many bytes as MaxEvents have", impl.StoreIngest(impl.Store{}, plain(), most), impl.ErrFull, 0)
}

func TestStoresTakeAsTheDocumentSays(t *testing.T) {
	source := rand.New(rand.NewSource(104))
	told := map[int64]int{}
	for _, d := range append(shapes(), plain(), plain()) {
		for range 9 {
			log := strings.Join(someRows(source, d, 8), "")
			s := syncedAt(log, int64(source.Intn(len(log)+1)))
			l := someBatch(source, lastStop(d, log).service, 1+source.Intn(12))
			for range 12 {
				bad := l
				if len(l) > 0 && source.Intn(4) > 0 {
					bad = spoilt(source, l)
				}
				want := storeIngested(s, d, bad)
				wantStored(t, "a batch that was changed", impl.StoreIngest(s, d, bad), want)
				told[want.Code]++
				before := somePick[int64](source, -1, 0, 3, 10, 30, 60, impl.MaxTime, impl.MaxTime+1)
				wantStored(t, "a cleaning", impl.StoreCleanup(s, d, before), storeCleaned(s, d, before))
			}
		}
	}
	for _, code := range []int64{impl.OK, impl.ErrForm, impl.ErrNone, impl.ErrRange, impl.ErrState} {
		if told[code] < 10 {
			t.Errorf("the code %d was told %d times, too few to tell", code, told[code])
		}
	}
}

// A Store is filled from empty to its end, and its Service is at each record what a Service is that had the same.
func TestAStoreGoesAlongWithAService(t *testing.T) {
	source := rand.New(rand.NewSource(105))
	var full, went int64
	for _, d := range append(shapes(), plain(), plain()) {
		s, v := impl.Store{}, impl.ServiceNew(d)
		for range 60 {
			l := someBatch(source, v, 1+source.Intn(20))
			x, y := impl.StoreIngest(s, d, l), impl.Ingest(v, l)
			if source.Intn(3) == 0 {
				before := int64(source.Intn(90))
				x, y = impl.StoreCleanup(s, d, before), impl.Cleanup(v, before)
				went += y.Many
			}
			if x.Code != y.Code && x.Code == impl.ErrFull {
				full++
				wantStoreRefused(t, "a full one", x, impl.ErrFull, 0)
				continue
			}
			if x.Code != y.Code || x.Many != y.Many {
				t.Fatalf("the Store tells Code %d, Many %d, the Service Code %d, Many %d", x.Code, x.Many, y.Code, y.Many)
			}
			if y.Code == impl.OK {
				s, v = x.Store, y.Service
			}
			wantReplay(t, "a Store and a Service", impl.Replay(d, s.Log), impl.ReplayOut{Service: v, At: int64(len(s.Log))})
		}
	}
	if went < 10 {
		t.Errorf("%d runs that went are too few to tell, %d times it was full", went, full)
	}
}

func TestStoresTakeAndLeaveWhatTheyAreGiven(t *testing.T) {
	source := rand.New(rand.NewSource(106))
	for _, d := range append(shapes(), plain()) {
		for range 4 {
			log := strings.Join(someRows(source, d, 6), "")
			batch := someBatch(source, lastStop(d, log).service, 9)
			given, l := copiedDef(d), roomy(batch)
			got := impl.StoreIngest(syncedAt(log, 0), given, l)
			swept := impl.StoreCleanup(syncedAt(log, 0), given, 40)
			wantAsItWas(t, "StoreIngest", l, batch)
			wantDefAsItWas(t, "StoreIngest, StoreCleanup", given, copiedDef(d))
			if sharesMemory(got.Store.Log, log) || sharesMemory(swept.Store.Log, log) {
				t.Errorf("the Log that is told lies in memory of the one that was given")
			}
			clear(l)
			clear(given.Steps)
			clear(given.Flows)
			wantStored(t, "behind a change of what was given", got, storeIngested(syncedAt(log, 0), d, batch))
		}
	}
}
