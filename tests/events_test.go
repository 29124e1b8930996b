package tests

import (
	"math"
	"slices"
	"testing"

	"loop.example/g00366/impl"
)

func TestKinds(t *testing.T) {
	kinds := []int64{impl.EvStart, impl.EvEnter, impl.EvLeave, impl.EvSet, impl.EvFault, impl.EvEnd}
	names := []string{"start", "enter", "leave", "set", "fault", "end"}
	for i, kind := range kinds {
		if kind != int64(i+1) {
			t.Errorf("the kind of %s: got %d, want %d", names[i], kind, i+1)
		}
		if got := impl.KindText(kind); got != names[i] {
			t.Errorf("KindText(%d): got %q, want %q", kind, got, names[i])
		}
	}
	for _, kind := range []int64{math.MinInt64, -1 << 32, -6, -1, 0, 7, 8, 257, 1<<32 + 1, 1<<62 + 2, math.MaxInt64} {
		if got := impl.KindText(kind); got != "" {
			t.Errorf("KindText(%d): got %q, want nothing", kind, got)
		}
	}
}

func TestEventLimits(t *testing.T) {
	got := [4]int64{impl.MaxEvents, impl.MaxList, impl.MaxBytes, impl.MaxTime}
	if want := [4]int64{200, 400, 8000, 1000000}; got != want {
		t.Errorf("MaxEvents, MaxList, MaxBytes, MaxTime: got %d, want %d", got, want)
	}
}

func TestEventRight(t *testing.T) {
	for _, e := range allEdges() {
		if got := impl.EventRight(e.event); got != e.right {
			t.Errorf("%s: EventRight of Seq %d, Time %d, Run %d, Kind %d, Step %.30q, Value %.50q: got %t", e.what,
				e.event.Seq, e.event.Time, e.event.Run, e.event.Kind, e.event.Step, e.event.Value, got)
		}
	}
}

func TestEventsBytesKnown(t *testing.T) {
	known := []struct {
		what   string
		events []impl.Event
		want   string
	}{
		{"none", nil, "\x00"},
		{"an empty list", []impl.Event{}, "\x00"},
		{"a start", []impl.Event{{Seq: 1, Time: 0, Run: 2, Kind: impl.EvStart}}, "\x02\x02\x00\x04\x02\x00\x00"},
		{"a set", []impl.Event{{Seq: 1, Time: 2, Run: 3, Kind: impl.EvSet, Step: "x", Value: "yz"}}, "\x02\x02\x04\x06\x08\x02x\x04yz"},
		{"two", []impl.Event{{Seq: 64, Time: 63, Run: 1, Kind: impl.EvLeave, Step: "ab"}, {Seq: 5, Time: 6, Run: 7, Kind: impl.EvEnd}},
			"\x04\x80\x01\x7e\x02\x06\x04ab\x00\x0a\x0c\x0e\x0c\x00\x00"},
	}
	for _, k := range known {
		if got := impl.EventsBytes(k.events); got != k.want {
			t.Errorf("%s: got %x, want %x", k.what, got, k.want)
		}
	}
}

func TestEventsBytesOfEachEdge(t *testing.T) {
	for _, e := range allEdges() {
		for _, l := range [][]impl.Event{{e.event}, append(right(), e.event), append([]impl.Event{e.event}, right()...)} {
			want := ""
			if e.right {
				want = laid(l)
			}
			if got := impl.EventsBytes(l); got != want {
				t.Errorf("%s of %d: EventsBytes: got %d bytes, want %d", e.what, len(l), len(got), len(want))
			}
		}
	}
}

func TestEventsBytesWithOneWrong(t *testing.T) {
	for place := range 20 {
		l := many(20)
		l[place].Run = 0
		if got := impl.EventsBytes(l); got != "" {
			t.Errorf("a wrong one at %d: got %d bytes, want none", place, len(got))
		}
	}
}

// starts: that many events of few bytes each, so that how many they are is all that may be wrong.
func starts(size int) []impl.Event {
	return slices.Repeat([]impl.Event{{Seq: 1, Run: 1, Kind: impl.EvStart}}, size)
}

func TestEventsBytesOfTooMany(t *testing.T) {
	for _, size := range []int{impl.MaxEvents - 1, impl.MaxEvents} {
		if got := impl.EventsBytes(starts(size)); got != laid(starts(size)) {
			t.Errorf("%d events: got %d bytes", size, len(got))
		}
	}
	for _, size := range []int{impl.MaxEvents + 1, impl.MaxList, impl.MaxList + 1, 5000} {
		if got := impl.EventsBytes(starts(size)); got != "" {
			t.Errorf("%d events: got %d bytes, want none", size, len(got))
		}
	}
}

func TestEventsBytesOfTooManyBytes(t *testing.T) {
	for _, events := range []int{125, 160, impl.MaxEvents} {
		for size := impl.MaxBytes - 2; size <= impl.MaxBytes; size++ {
			if got := impl.EventsBytes(heavy(t, events, size)); len(got) != size {
				t.Errorf("%d events of %d bytes: got %d bytes", events, size, len(got))
			}
		}
		for size := impl.MaxBytes + 1; size <= impl.MaxBytes+3; size++ {
			if got := impl.EventsBytes(heavy(t, events, size)); got != "" {
				t.Errorf("%d events of %d bytes: got %d bytes, want none", events, size, len(got))
			}
		}
	}
	if got := impl.EventsBytes(heavy(t, impl.MaxEvents, 13000)); got != "" {
		t.Errorf("events of 13000 bytes: got %d bytes, want none", len(got))
	}
}

func TestEventsBytesLeavesItsList(t *testing.T) {
	l := many(30)
	impl.EventsBytes(l)
	if !slices.Equal(l, many(30)) {
		t.Error("EventsBytes changed the list that it was given")
	}
}
