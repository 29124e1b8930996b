package tests

import (
	"encoding/binary"
	"hash/crc32"
	"math/rand"
	"slices"
	"strings"
	"testing"

	"loop.example/g00366/impl"
)

// varint: the bytes of a number, by the library.
func varint(n int64) string {
	return string(binary.AppendVarint(nil, n))
}

// sealedText: a text and its CRC, by the library.
func sealedText(text string) string {
	return string(binary.LittleEndian.AppendUint32([]byte(text), crc32.ChecksumIEEE([]byte(text))))
}

// rowOf: what a log has of a text, record or not.
func rowOf(text string) string {
	return varint(int64(len(text)+4)) + sealedText(text)
}

// ones: these events, each Seq 1.
func ones(l []impl.Event) []impl.Event {
	out := slices.Clone(l)
	for i := range out {
		out[i].Seq = 1
	}
	return out
}

// batchRow: the record of a batch.
func batchRow(l ...impl.Event) string {
	return rowOf("I" + laid(ones(l)))
}

// cleanRow: the record of a cleaning.
func cleanRow(before int64) string {
	return rowOf("C" + varint(before))
}

// textRow: the text that is sealed at that place of a log, and the place behind it; is there one?
func textRow(log string, at int) (string, int, bool) {
	size, n := binary.Varint([]byte(log[at:]))
	from := at + n
	if n <= 0 || varint(size) != log[at:from] || size < 4 || size > impl.MaxBytes || size > int64(len(log)-from) {
		return "", 0, false
	}
	behind := from + int(size)
	text := log[from : behind-4]
	return text, behind, sealedText(text) == log[from:behind]
}

// recordDone: the Service behind what is written so; is it a record that is taken?
func recordDone(s impl.Service, text string) (impl.Service, bool) {
	var out impl.ServiceOut
	switch {
	case strings.HasPrefix(text, "I"):
		l := impl.EventsRead(text[1:])
		if l.Code != impl.OK || !slices.Equal(l.Events, ones(l.Events)) {
			return s, false
		}
		out = ingested(s, l.Events)
	case strings.HasPrefix(text, "C"):
		n, size := binary.Varint([]byte(text[1:]))
		if size <= 0 || text[1:] != varint(n) {
			return s, false
		}
		out = cleaned(s, n)
	default:
		return s, false
	}
	if out.Code != impl.OK {
		return s, false
	}
	return out.Service, true
}

// stop: a place behind a record of a log, and the Service there.
type stop struct {
	at      int
	service impl.Service
}

// stops: all that a log of a right Def has, the first one ahead of its first record, told over again.
func stops(d impl.Def, log string) []stop {
	out := []stop{{0, impl.Service{Def: d, Next: 1}}}
	for {
		last := out[len(out)-1]
		text, behind, there := textRow(log, last.at)
		if !there {
			return out
		}
		s, taken := recordDone(last.service, text)
		if !taken {
			return out
		}
		out = append(out, stop{behind, s})
	}
}

// lastStop: where a log is no more gone on.
func lastStop(d impl.Def, log string) stop {
	all := stops(d, log)
	return all[len(all)-1]
}

// replays: what the document says of a log, told over again.
func replays(d impl.Def, log string) impl.ReplayOut {
	if len(log) > impl.MaxBytes {
		return impl.ReplayOut{Code: impl.ErrSize}
	}
	if !impl.DefRight(d) {
		return impl.ReplayOut{Code: impl.ErrForm}
	}
	end := lastStop(d, log)
	return impl.ReplayOut{Service: end.service, At: int64(end.at)}
}

// storeRight: what a right Store is, told over again.
func storeRight(s impl.Store, d impl.Def) bool {
	if !impl.DefRight(d) || len(s.Log) > impl.MaxBytes || s.Synced < 0 || s.Synced > int64(len(s.Log)) {
		return false
	}
	return lastStop(d, s.Log).at == len(s.Log)
}

// behindRow: a Store that takes a record, or the code, told over again.
func behindRow(s impl.Store, x impl.ServiceOut, row string) impl.StoreOut {
	if x.Code != impl.OK {
		return impl.StoreOut{Many: x.Many, Code: x.Code}
	}
	if len(s.Log)+len(row) > impl.MaxBytes {
		return impl.StoreOut{Code: impl.ErrFull}
	}
	return impl.StoreOut{Store: impl.Store{Log: s.Log + row, Synced: s.Synced}, Many: x.Many}
}

// storeIngested: what the document says of a batch that comes to a Store, told over again.
func storeIngested(s impl.Store, d impl.Def, l []impl.Event) impl.StoreOut {
	if len(l) > impl.MaxList {
		return impl.StoreOut{Code: impl.ErrSize}
	}
	if !storeRight(s, d) {
		return impl.StoreOut{Code: impl.ErrForm}
	}
	return behindRow(s, ingested(lastStop(d, s.Log).service, l), batchRow(l...))
}

// storeCleaned: what the document says of a cleaning of a Store, told over again.
func storeCleaned(s impl.Store, d impl.Def, before int64) impl.StoreOut {
	if !storeRight(s, d) {
		return impl.StoreOut{Code: impl.ErrForm}
	}
	return behindRow(s, cleaned(lastStop(d, s.Log).service, before), cleanRow(before))
}

func wantReplay(t *testing.T, what string, got impl.ReplayOut, want impl.ReplayOut) {
	t.Helper()
	if got.Code != want.Code || got.At != want.At || !sameService(got.Service, want.Service) {
		t.Errorf("%s: got %+v, want %+v", what, got, want)
	}
}

func wantRightStore(t *testing.T, what string, s impl.Store, d impl.Def, want bool) {
	t.Helper()
	if got := impl.StoreRight(s, d); got != want {
		t.Errorf("%s: got %t, want %t", what, got, want)
	}
}

// shortStore: as much of a Store as is worth telling.
func shortStore(s impl.Store) []any {
	return []any{len(s.Log), s.Log[max(0, len(s.Log)-40):], s.Synced}
}

func wantStore(t *testing.T, what string, got impl.Store, want impl.Store) {
	t.Helper()
	if got != want {
		t.Errorf("%s: got %q, want %q", what, shortStore(got), shortStore(want))
	}
}

func wantStored(t *testing.T, what string, got impl.StoreOut, want impl.StoreOut) {
	t.Helper()
	if got.Code != want.Code || got.Many != want.Many {
		t.Errorf("%s: got Code %d, Many %d, want Code %d, Many %d", what, got.Code, got.Many, want.Code, want.Many)
	}
	wantStore(t, what, got.Store, want.Store)
}

// diary: a right log of plain: two runs that begin, one of them that ends, a cleaning of it, and one more that begins.
func diary() []string {
	return []string{
		batchRow(ending(3, 5, 9)[:2]...),
		batchRow(ending(2, 1, 0)[0], ending(3, 5, 9)[2]),
		batchRow(ending(3, 5, 9)[3]),
		cleanRow(8),
		cleanRow(9),
		batchRow(ending(3, 0, 9)[:1]...),
	}
}

// fullBatch: a batch of one run of plain whose bytes, with those of how many they are, are just so many.
func fullBatch(t *testing.T, size int) []impl.Event {
	t.Helper()
	start := at(1, 0, impl.EvStart, "")
	out := append([]impl.Event{start}, heavy(t, 160, size-len(laidEvent(start)))...)
	if len(laid(ones(out))) != size {
		t.Fatalf("a batch of %d bytes: got %d", size, len(laid(ones(out))))
	}
	return out
}

// fullLog: a right log of plain of just so many bytes, of one record.
func fullLog(t *testing.T, size int) string {
	t.Helper()
	out := batchRow(fullBatch(t, size-7)...)
	if len(out) != size {
		t.Fatalf("a log of %d bytes: got %d", size, len(out))
	}
	return out
}

// someRow: a record that may come behind a Service, and the Service behind it; none, if nothing came to mind.
func someRow(source *rand.Rand, s impl.Service) (string, impl.Service) {
	if source.Intn(4) == 0 {
		before := int64(source.Intn(70))
		return cleanRow(before), cleaned(s, before).Service
	}
	l := ones(someBatch(source, s, 1+source.Intn(9)))
	if x := ingested(s, l); x.Code == impl.OK {
		return batchRow(l...), x.Service
	}
	return "", s
}

// someRows: at most so many records of a right log of that Def.
func someRows(source *rand.Rand, d impl.Def, size int) []string {
	s := impl.Service{Def: d, Next: 1}
	var out []string
	var row string
	for range size {
		if row, s = someRow(source, s); row != "" && len(strings.Join(out, "")+row) <= impl.MaxBytes {
			out = append(out, row)
		}
	}
	return out
}
