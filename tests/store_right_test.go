package tests

import (
	"math"
	"math/rand"
	"slices"
	"strings"
	"testing"

	"loop.example/g00366/impl"
)

// wrongLogs: those of plain that are not gone through to their end, by what is wrong, of at most MaxBytes bytes.
func wrongLogs() map[string]string {
	log := strings.Join(diary(), "")
	last := len(diary()) - 1
	return map[string]string{
		"one byte":                 "x",
		"a nought":                 "\x00",
		"no record":                filled(300),
		"no record, MaxBytes":      filled(impl.MaxBytes),
		"a byte behind the last":   log + "\x00",
		"a byte ahead":             "\x00" + log,
		"cut amid the first":       diary()[0][:5],
		"cut amid the last":        log[:len(log)-1],
		"without the first":        strings.Join(diary()[1:], ""),
		"without one in between":   strings.Join(slices.Delete(diary(), 1, 2), ""),
		"the last twice":           log + diary()[last],
		"a seal of nothing":        log + rowOf(""),
		"another first byte":       log + rowOf("i"+laid(ones(runsFrom(1)))),
		"a batch of none":          log + rowOf("I"+laid(nil)),
		"a Seq that is not 1":      log + rowOf("I"+laid(numbered(runsFrom(2)...))),
		"a batch that is refused":  log + batchRow(append(runsFrom(3), at(7, 0, impl.EvEnd, ""))...),
		"a cleaning by no time":    log + cleanRow(impl.MaxTime+1),
		"bytes behind a time":      log + rowOf("C"+varint(3)+"\x00"),
		"a byte turned at first":   turned(log, 0, 1),
		"a byte turned at last":    turned(log, len(log)-1, 1),
		"a byte turned in between": turned(log, len(log)/2, 128),
	}
}

// syncedAt: that log, and so many bytes of it synced.
func syncedAt(log string, many int64) impl.Store {
	return impl.Store{Log: log, Synced: many}
}

// wrongSyncs: what may not be synced of a log of so many bytes.
func wrongSyncs(size int) []int64 {
	return []int64{math.MinInt64, -1 << 40, -1, int64(size) + 1, impl.MaxBytes + 1, 1 << 40, math.MaxInt64}
}

func TestStoreRightBySynced(t *testing.T) {
	for i := range len(diary()) + 1 {
		log := strings.Join(diary()[:i], "")
		for many := range int64(len(log) + 1) {
			wantRightStore(t, "synced as many as there are", syncedAt(log, many), plain(), true)
		}
		for _, many := range wrongSyncs(len(log)) {
			wantRightStore(t, "synced more or less than there are", syncedAt(log, many), plain(), false)
		}
	}
}

func TestStoreRightOfTheEmptyLog(t *testing.T) {
	for _, d := range append(shapes(), plain()) {
		wantRightStore(t, "the zero Store", impl.Store{}, d, true)
		wantRightStore(t, "one synced", syncedAt("", 1), d, false)
		wantRightStore(t, "below 0 synced", syncedAt("", -1), d, false)
	}
}

func TestStoreRightOfWrongDefs(t *testing.T) {
	for what, d := range wrongDefs() {
		for _, log := range append(diary(), "", strings.Join(diary(), ""), cleanRow(3), "x") {
			wantRightStore(t, what, syncedAt(log, 0), d, false)
			wantRightStore(t, what, syncedAt(log, int64(len(log))), d, false)
		}
	}
}

// A log is one of its Def: of another one it may be refused.
func TestStoreRightOfOtherDefs(t *testing.T) {
	log := strings.Join(diary(), "")
	wantRightStore(t, "its own", syncedAt(log, 0), plain(), true)
	wantRightStore(t, "one more step behind", syncedAt(log, 0), impl.Def{Steps: []string{"only", "b"}}, true)
	wantRightStore(t, "one more step ahead", syncedAt(log, 0), impl.Def{Steps: []string{"b", "only"}}, false)
	wantRightStore(t, "a flow", syncedAt(log, 0), impl.Def{Steps: []string{"only"}, Flows: flows("only only")}, false)
	wantRightStore(t, "other steps", syncedAt(log, 0), loops(), false)
	wantRightStore(t, "cleanings go with each", syncedAt(cleanRow(3)+cleanRow(0), 0), loops(), true)
}

func TestStoreRightOfLongLogs(t *testing.T) {
	full := fullLog(t, impl.MaxBytes)
	for _, many := range []int64{0, 1, impl.MaxBytes - 1, impl.MaxBytes} {
		wantRightStore(t, "MaxBytes", syncedAt(full, many), plain(), true)
	}
	wantRightStore(t, "MaxBytes, one more synced", syncedAt(full, impl.MaxBytes+1), plain(), false)
	wantRightStore(t, "MaxBytes, below 0 synced", syncedAt(full, -1), plain(), false)
	near := fullLog(t, impl.MaxBytes-6)
	wantRightStore(t, "nearly MaxBytes", syncedAt(near, 0), plain(), true)
	wantRightStore(t, "one more than MaxBytes", syncedAt(near+cleanRow(3), 0), plain(), false)
	wantRightStore(t, "more than MaxBytes", syncedAt(full+cleanRow(3), 0), plain(), false)
	wantRightStore(t, "more than MaxBytes, all synced", syncedAt(full+cleanRow(3), impl.MaxBytes+7), plain(), false)
	wantRightStore(t, "much more than MaxBytes", syncedAt(strings.Repeat(cleanRow(3), 9000), 0), plain(), false)
}

func TestStoreRightOfWrongLogs(t *testing.T) {
	for what, log := range wrongLogs() {
		for _, many := range []int64{-1, 0, 1, int64(len(log)), int64(len(log)) + 1} {
			wantRightStore(t, what, syncedAt(log, many), plain(), false)
		}
	}
}

func TestStoreRightAsTheDocumentSays(t *testing.T) {
	source := rand.New(rand.NewSource(103))
	told := map[bool]int{}
	for _, d := range append(shapes(), plain(), plain()) {
		for range 6 {
			rows := someRows(source, d, 15)
			for range 10 {
				s := syncedAt(spoiltRows(source, rows), 0)
				s.Synced = int64(source.Intn(len(s.Log)+3) - 1)
				want := storeRight(s, d)
				wantRightStore(t, "a log that was changed", s, d, want)
				told[want]++
			}
		}
	}
	if told[true] < 50 || told[false] < 50 {
		t.Errorf("%v are too few to tell", told)
	}
}

func TestStoreRightLeavesWhatItIsGiven(t *testing.T) {
	for _, d := range append(shapes(), plain()) {
		given := copiedDef(d)
		impl.StoreRight(syncedAt(strings.Join(diary(), ""), 3), given)
		wantDefAsItWas(t, "StoreRight", given, copiedDef(d))
	}
}
