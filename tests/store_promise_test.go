package tests

import (
	"math"
	"math/rand"
	"slices"
	"strings"
	"testing"

	"loop.example/g00366/impl"
)

// wantSomeRecord: promise 10 of a Store of which so many bytes are synced: what is left is what there was behind some
// record, at or behind the last one that was synced whole, and never more than keep says.
func wantSomeRecord(t *testing.T, d impl.Def, s impl.Store, keep int64, all []stop) {
	t.Helper()
	left := impl.StoreRecover(impl.StoreCrash(s, keep), d)
	wantRightStore(t, "behind a crash", left, d, true)
	if left.Synced != int64(len(left.Log)) {
		t.Errorf("behind a crash %d of %d bytes are Synced", left.Synced, len(left.Log))
	}
	which := slices.IndexFunc(all, func(x stop) bool { return x.at == len(left.Log) })
	if which < 0 {
		t.Fatalf("%d synced, %d kept: what is left ends at %d, behind no record", s.Synced, keep, len(left.Log))
	}
	if left.Log != s.Log[:len(left.Log)] {
		t.Errorf("%d synced, %d kept: what is left is not what there was", s.Synced, keep)
	}
	got := impl.Replay(d, left.Log)
	wantReplay(t, "behind a crash", got, impl.ReplayOut{Service: all[which].service, At: left.Synced})
	end := s.Synced + min(max(keep, 0), int64(len(s.Log))-s.Synced)
	if int64(all[which].at) > end || which+1 < len(all) && int64(all[which+1].at) <= end {
		t.Errorf("%d synced, %d kept: the record %d is not the last one", s.Synced, keep, which)
	}
}

func TestACrashLeavesWhatThereWasAtSomeRecord(t *testing.T) {
	log := strings.Join(diary(), "")
	all := stops(plain(), log)
	if len(all) != len(diary())+1 {
		t.Fatalf("got %d records, want %d", len(all)-1, len(diary()))
	}
	for synced := range int64(len(log) + 1) {
		for keep := int64(-2); keep <= int64(len(log))-synced+2; keep++ {
			wantSomeRecord(t, plain(), syncedAt(log, synced), keep, all)
		}
		wantSomeRecord(t, plain(), syncedAt(log, synced), math.MinInt64, all)
		wantSomeRecord(t, plain(), syncedAt(log, synced), math.MaxInt64, all)
	}
}

// synchronised: a Store that took these records by the program's own calls, synced behind the first so many of them.
func synchronised(t *testing.T, source *rand.Rand, d impl.Def, size int, many int) (impl.Store, []stop) {
	t.Helper()
	var s impl.Store
	v := impl.ServiceNew(d)
	all := []stop{{0, v}}
	for i := range size {
		if i == many {
			s = impl.StoreSync(s)
		}
		l := someBatch(source, v, 1+source.Intn(6))
		x, y := impl.StoreIngest(s, d, l), impl.Ingest(v, l)
		if source.Intn(4) == 0 {
			before := int64(source.Intn(60))
			x, y = impl.StoreCleanup(s, d, before), impl.Cleanup(v, before)
		}
		if x.Code == impl.OK {
			s, v = x.Store, y.Service
			all = append(all, stop{len(s.Log), v})
		}
	}
	return s, all
}

func TestACrashOfStoresThatWereSyncedAmidTheirRecords(t *testing.T) {
	source := rand.New(rand.NewSource(108))
	records := 0
	for _, d := range append(shapes(), plain(), plain()) {
		for _, many := range []int{0, 3, 6} {
			s, all := synchronised(t, source, d, 7, many)
			records += len(all) - 1
			for keep := int64(-1); keep <= int64(len(s.Log))-s.Synced+1; keep++ {
				wantSomeRecord(t, d, s, keep, all)
			}
		}
	}
	if records < 100 {
		t.Errorf("%d records are too few to tell", records)
	}
}

// What was synced is there whatever keep says; what comes behind a recovery goes on from there.
func TestAStoreGoesOnBehindACrash(t *testing.T) {
	source := rand.New(rand.NewSource(109))
	for _, d := range append(shapes(), plain()) {
		var s impl.Store
		for range 25 {
			l := someBatch(source, impl.Replay(d, s.Log).Service, 1+source.Intn(6))
			if x := impl.StoreIngest(s, d, l); x.Code == impl.OK {
				s = x.Store
			}
			if source.Intn(3) == 0 {
				s = impl.StoreSync(s)
			}
			if source.Intn(3) == 0 {
				was := s
				s = impl.StoreRecover(impl.StoreCrash(s, int64(source.Intn(60)-5)), d)
				if len(s.Log) < int(was.Synced) || !strings.HasPrefix(was.Log, s.Log) {
					t.Errorf("of %d synced bytes a crash left %d", was.Synced, len(s.Log))
				}
			}
			wantRightStore(t, "amid crashes", s, d, true)
		}
	}
}
