package tests

import (
	"encoding/binary"
	"math"
	"slices"
	"strings"
	"testing"

	"loop.example/g00366/impl"
)

// right: one right event of each kind, in the order of the kinds.
func right() []impl.Event {
	return []impl.Event{
		{Seq: 1, Time: 0, Run: 1, Kind: impl.EvStart},
		{Seq: 2, Time: 1, Run: 1, Kind: impl.EvEnter, Step: "a"},
		{Seq: 63, Time: 64, Run: 65, Kind: impl.EvLeave, Step: "b_2"},
		{Seq: 64, Time: 63, Run: 8192, Kind: impl.EvSet, Step: strings.Repeat("n", 20), Value: "\x00 \xff\n"},
		{Seq: 8191, Time: 8192, Run: 2, Kind: impl.EvFault, Step: "z"},
		{Seq: impl.MaxTime, Time: impl.MaxTime, Run: impl.MaxTime, Kind: impl.EvEnd},
	}
}

// many: that many right events, the kinds in turn.
func many(size int) []impl.Event {
	kinds := right()
	var out []impl.Event
	for i := range size {
		e := kinds[i%len(kinds)]
		e.Seq = int64(1 + i)
		out = append(out, e)
	}
	return out
}

// heavy: that many right events whose bytes, with those of how many they are, are just so many.
func heavy(t *testing.T, events int, size int) []impl.Event {
	t.Helper()
	var out []impl.Event
	for range events {
		out = append(out, impl.Event{Seq: 1, Run: 1, Kind: impl.EvSet, Step: "s"})
	}
	lack := size - len(laid(out))
	for i := range out {
		more := min(lack, 40)
		out[i].Value = strings.Repeat("v", more)
		lack -= more
	}
	for i := range out {
		more := min(lack, 19)
		out[i].Step += strings.Repeat("s", more)
		lack -= more
	}
	if len(laid(out)) != size {
		t.Fatalf("%d events of %d bytes: got %d bytes", events, size, len(laid(out)))
	}
	return out
}

// laidEvent: the bytes of one event by the document's words, right or not.
func laidEvent(e impl.Event) string {
	var out []byte
	for _, n := range []int64{e.Seq, e.Time, e.Run, e.Kind} {
		out = binary.AppendVarint(out, n)
	}
	for _, text := range []string{e.Step, e.Value} {
		out = binary.AppendVarint(out, int64(len(text)))
		out = append(out, text...)
	}
	return string(out)
}

// counted: the bytes of a number, and events behind it, whether they are so many or not.
func counted(n int64, l []impl.Event) string {
	out := string(binary.AppendVarint(nil, n))
	for _, e := range l {
		out += laidEvent(e)
	}
	return out
}

// laid: the bytes of events by the document's words, right or not.
func laid(l []impl.Event) string {
	return counted(int64(len(l)), l)
}

func wantEvents(t *testing.T, what string, got impl.EventsOut, want impl.EventsOut) {
	t.Helper()
	if got.Code != want.Code || !slices.Equal(got.Events, want.Events) {
		t.Errorf("%s: got Code %d, %d events, want Code %d, %d events", what, got.Code, len(got.Events), want.Code, len(want.Events))
	}
}

// edge: an event, and whether it is right.
type edge struct {
	what  string
	event impl.Event
	right bool
}

// changed: that event with something else in it.
func changed(e impl.Event, change func(*impl.Event)) impl.Event {
	change(&e)
	return e
}

// numberEdges: an event with each of its numbers at its edges.
func numberEdges(e impl.Event) []edge {
	const far = int64(1) << 40
	var out []edge
	for _, n := range []int64{math.MinInt64, -far, -1, 0, 1, 2, impl.MaxTime - 1, impl.MaxTime, impl.MaxTime + 1, far, math.MaxInt64} {
		above := n >= 1 && n <= impl.MaxTime
		out = append(out,
			edge{"Seq", changed(e, func(e *impl.Event) { e.Seq = n }), above},
			edge{"Run", changed(e, func(e *impl.Event) { e.Run = n }), above},
			edge{"Time", changed(e, func(e *impl.Event) { e.Time = n }), above || n == 0})
	}
	for _, kind := range []int64{-far, -1, 0, 7, 8, 255, 256 + e.Kind, far + e.Kind} {
		out = append(out, edge{"Kind", changed(e, func(e *impl.Event) { e.Kind = kind }), false})
	}
	return out
}

// textEdges: an event with each of its texts at its edges.
func textEdges(e impl.Event) []edge {
	named := e.Kind != impl.EvStart && e.Kind != impl.EvEnd
	valued := e.Kind == impl.EvSet
	var out []edge
	for _, step := range []string{"a", "z9_", strings.Repeat("q", 19), strings.Repeat("q", 20)} {
		out = append(out, edge{"a name", changed(e, func(e *impl.Event) { e.Step = step }), named})
	}
	for _, step := range []string{strings.Repeat("q", 21), "A", "_a", "9", "a b", "a-", "\x00", " ", filled(9000)} {
		out = append(out, edge{"no name", changed(e, func(e *impl.Event) { e.Step = step }), false})
	}
	out = append(out, edge{"no Step", changed(e, func(e *impl.Event) { e.Step = "" }), !named})
	out = append(out, edge{"no Value", changed(e, func(e *impl.Event) { e.Value = "" }), true})
	for _, size := range []int{1, 39, 40} {
		out = append(out, edge{"a Value", changed(e, func(e *impl.Event) { e.Value = filled(size) }), valued})
	}
	for _, size := range []int{41, 100, 9000} {
		out = append(out, edge{"a Value too long", changed(e, func(e *impl.Event) { e.Value = filled(size) }), false})
	}
	return out
}

// allEdges: those of events of each kind.
func allEdges() []edge {
	out := []edge{{"the zero Event", impl.Event{}, false}}
	for _, e := range right() {
		out = append(out, edge{"a right one", e, true})
		out = append(out, numberEdges(e)...)
		out = append(out, textEdges(e)...)
	}
	return out
}
