package tests

import (
	"math"
	"math/rand"
	"strconv"
	"strings"
	"testing"

	"loop.example/g00366/impl"
)

// anyLogs: right ones, others, and such as are too long.
func anyLogs(t *testing.T) map[string]string {
	t.Helper()
	out := wrongLogs()
	out["the empty log"] = ""
	out["a right one"] = strings.Join(diary(), "")
	out["MaxBytes, right"] = fullLog(t, impl.MaxBytes)
	out["MaxBytes"] = filled(impl.MaxBytes)
	out["one more than MaxBytes"] = filled(impl.MaxBytes + 1)
	out["one more, all records"] = fullLog(t, impl.MaxBytes-6) + cleanRow(3)
	out["much more"] = filled(50000)
	return out
}

// anySyncs: what may be told as synced of a log of so many bytes, and what may not.
func anySyncs(size int) []int64 {
	return append(wrongSyncs(size), 0, int64(size)/2, int64(size)-1, int64(size))
}

func TestStoreSync(t *testing.T) {
	for what, log := range anyLogs(t) {
		for _, many := range anySyncs(len(log)) {
			want := syncedAt(log, many)
			if len(log) <= impl.MaxBytes {
				want.Synced = int64(len(log))
			}
			wantStore(t, what, impl.StoreSync(syncedAt(log, many)), want)
		}
	}
}

func TestStoreCrashByKeep(t *testing.T) {
	log := strings.Join(diary(), "")
	size := int64(len(log))
	cases := []struct {
		synced int64
		keep   int64
		left   int64
	}{
		{0, 0, 0},
		{0, -1, 0},
		{0, math.MinInt64, 0},
		{0, 1, 1},
		{0, 20, 20},
		{0, size - 1, size - 1},
		{0, size, size},
		{0, size + 1, size},
		{0, math.MaxInt64, size},
		{10, 0, 10},
		{10, -1, 10},
		{10, -10, 10},
		{10, math.MinInt64, 10},
		{10, 1, 11},
		{10, size - 11, size - 1},
		{10, size - 10, size},
		{10, size - 9, size},
		{10, size, size},
		{10, math.MaxInt64, size},
		{size - 1, 0, size - 1},
		{size - 1, 1, size},
		{size - 1, 2, size},
		{size - 1, math.MaxInt64, size},
		{size, 0, size},
		{size, 1, size},
		{size, -1, size},
		{size, math.MaxInt64, size},
		{size, math.MinInt64, size},
	}
	for _, c := range cases {
		what := strconv.FormatInt(c.synced, 10) + " synced, " + strconv.FormatInt(c.keep, 10) + " kept"
		wantStore(t, what, impl.StoreCrash(syncedAt(log, c.synced), c.keep), syncedAt(log[:c.left], c.left))
	}
}

// A crash asks nothing of a Log but that so many bytes of it may be synced: it may be too long, or no log at all.
func TestStoreCrashOfAnyLog(t *testing.T) {
	for what, log := range anyLogs(t) {
		size := int64(len(log))
		for _, keep := range []int64{math.MinInt64, -1, 0, 1, 3, size / 2, size, size + 1, math.MaxInt64} {
			for _, many := range anySyncs(len(log)) {
				want := syncedAt(log, many)
				if many >= 0 && many <= size {
					left := many
					for left < size && left-many < keep {
						left++
					}
					want = syncedAt(log[:left], left)
				}
				wantStore(t, what, impl.StoreCrash(syncedAt(log, many), keep), want)
			}
		}
	}
}

func TestStoreRecoverOfWrongDefs(t *testing.T) {
	for what, d := range wrongDefs() {
		for _, log := range append(diary(), "", "x", strings.Join(diary(), "")+"x", filled(impl.MaxBytes), filled(impl.MaxBytes+1)) {
			for _, many := range anySyncs(len(log)) {
				wantStore(t, what, impl.StoreRecover(syncedAt(log, many), d), syncedAt(log, many))
			}
		}
	}
}

func TestStoreRecoverOfAnyLog(t *testing.T) {
	for what, log := range anyLogs(t) {
		want := log
		if len(log) <= impl.MaxBytes {
			want = log[:lastStop(plain(), log).at]
		}
		for _, many := range anySyncs(len(log)) {
			got := impl.StoreRecover(syncedAt(log, many), plain())
			if len(log) > impl.MaxBytes {
				wantStore(t, what, got, syncedAt(log, many))
				continue
			}
			wantStore(t, what, got, syncedAt(want, int64(len(want))))
			wantRightStore(t, what, got, plain(), true)
		}
	}
}

func TestStoreRecoverOfALogThatIsCut(t *testing.T) {
	rows := diary()
	log := strings.Join(rows, "")
	for size := range len(log) + 1 {
		var want string
		for _, row := range rows {
			if len(want)+len(row) > size {
				break
			}
			want += row
		}
		got := impl.StoreRecover(syncedAt(log[:size], 3), plain())
		wantStore(t, "cut at "+strconv.Itoa(size), got, syncedAt(want, int64(len(want))))
		wantStore(t, "a second time", impl.StoreRecover(got, plain()), got)
	}
}

func TestStoreRecoverAsTheDocumentSays(t *testing.T) {
	source := rand.New(rand.NewSource(107))
	for _, d := range append(shapes(), plain()) {
		for range 5 {
			rows := someRows(source, d, 12)
			for range 8 {
				s := syncedAt(spoiltRows(source, rows), int64(source.Intn(900)-9))
				at := lastStop(d, s.Log).at
				got := impl.StoreRecover(s, d)
				wantStore(t, "a log that was changed", got, syncedAt(s.Log[:at], int64(at)))
				wantRightStore(t, "a log that was changed", got, d, true)
			}
		}
	}
}

func TestStoresThatCrashAreNewAndLeaveWhatTheyAreGiven(t *testing.T) {
	for what, log := range anyLogs(t) {
		for _, many := range anySyncs(len(log)) {
			s := syncedAt(log, many)
			d := loops()
			for _, got := range []impl.Store{impl.StoreSync(s), impl.StoreCrash(s, 9), impl.StoreCrash(s, math.MaxInt64),
				impl.StoreRecover(s, plain()), impl.StoreRecover(s, d), impl.StoreRecover(s, impl.Def{})} {
				if sharesMemory(got.Log, log) {
					t.Errorf("%s: the Log that is told lies in memory of the one that was given", what)
				}
			}
			wantDefAsItWas(t, what, d, loops())
		}
	}
}
