package tests

import (
	"encoding/binary"
	"fmt"
	"math"
	"math/rand"
	"strings"
	"testing"

	"loop.example/g00366/impl"
)

func TestRightEventsComeBack(t *testing.T) {
	for size := 0; size <= impl.MaxEvents; size++ {
		l := many(size)
		wantEvents(t, fmt.Sprint(size, " events"), impl.EventsRead(impl.EventsBytes(l)), impl.EventsOut{Events: many(size)})
	}
	for _, e := range allEdges() {
		if e.right {
			l := []impl.Event{e.event, right()[3], e.event}
			wantEvents(t, e.what, impl.EventsRead(impl.EventsBytes(l)), impl.EventsOut{Events: l})
		}
	}
	for _, events := range []int{125, impl.MaxEvents} {
		l := heavy(t, events, impl.MaxBytes)
		wantEvents(t, "MaxBytes bytes", impl.EventsRead(impl.EventsBytes(l)), impl.EventsOut{Events: l})
	}
}

func TestEventsReadIsNew(t *testing.T) {
	text := laid(right())
	first, second := impl.EventsRead(text), impl.EventsRead(text)
	for i := range first.Events {
		e := &first.Events[i]
		if sharesMemory(e.Step, text) || sharesMemory(e.Value, text) {
			t.Errorf("the texts of event %d lie in the text that was given", i)
		}
		*e = impl.Event{}
	}
	wantEvents(t, "the second list", second, impl.EventsOut{Events: right()})
	wantEvents(t, "a third list", impl.EventsRead(text), impl.EventsOut{Events: right()})
}

func wantSyntax(t *testing.T, what string, text string) {
	t.Helper()
	wantEvents(t, what, impl.EventsRead(text), impl.EventsOut{Code: impl.ErrSyntax})
}

func TestEventsReadEndsTooEarly(t *testing.T) {
	wantSyntax(t, "the empty text", "")
	for size := 1; size <= 12; size++ {
		text := laid(many(size))
		for end := range len(text) {
			wantSyntax(t, fmt.Sprintf("%d events, %d of %d bytes", size, end, len(text)), text[:end])
		}
	}
}

func TestEventsReadBytesBehind(t *testing.T) {
	for size := range 8 {
		text := laid(many(size))
		for b := range 256 {
			wantSyntax(t, fmt.Sprintf("%d events and a byte %x", size, b), text+string([]byte{byte(b)}))
		}
		wantSyntax(t, fmt.Sprint(size, " events and one more"), text+laidEvent(right()[1]))
		wantSyntax(t, fmt.Sprint(size, " events twice"), text+text)
	}
}

func TestEventsReadCounts(t *testing.T) {
	far := []int64{math.MinInt64, -1 << 32, -200, -2, -1, impl.MaxEvents + 1, 1 << 32, 1<<32 + 3, math.MaxInt64}
	for size := range 7 {
		for _, n := range append(far, 0, 1, 2, 3, 4, 5, 6, 7, 100, impl.MaxEvents) {
			if n != int64(size) {
				wantSyntax(t, fmt.Sprintf("%d events told as %d", size, n), counted(n, many(size)))
			}
		}
	}
	for _, size := range []int{impl.MaxEvents + 1, 300, impl.MaxList, impl.MaxList + 1, 1000} {
		wantSyntax(t, fmt.Sprint(size, " events"), laid(starts(size)))
		wantSyntax(t, fmt.Sprint(size, " events told as MaxEvents"), counted(impl.MaxEvents, starts(size)))
	}
	wantEvents(t, "MaxEvents events", impl.EventsRead(laid(starts(impl.MaxEvents))), impl.EventsOut{Events: starts(impl.MaxEvents)})
	wantSyntax(t, "MaxEvents events told as one more", counted(impl.MaxEvents+1, starts(impl.MaxEvents)))
}

// parts: the bytes of one event told as one, each number, length and text by itself.
func parts(e impl.Event) []string {
	out := []string{string(binary.AppendVarint(nil, 1))}
	for _, n := range []int64{e.Seq, e.Time, e.Run, e.Kind} {
		out = append(out, string(binary.AppendVarint(nil, n)))
	}
	for _, text := range []string{e.Step, e.Value} {
		out = append(out, string(binary.AppendVarint(nil, int64(len(text)))), text)
	}
	return out
}

// stretched: a number's bytes with one more than is needed.
func stretched(number string) string {
	last := len(number) - 1
	return number[:last] + string([]byte{number[last] | 128, 0})
}

func TestEventsReadNeedlessBytes(t *testing.T) {
	for kind, e := range right() {
		for place := range parts(e) {
			if place == 6 || place == 8 {
				continue // these two are texts, all others are numbers
			}
			row := parts(e)
			row[place] = stretched(row[place])
			wantSyntax(t, fmt.Sprintf("kind %d, needless byte at %d", kind+1, place), strings.Join(row, ""))
		}
		wantEvents(t, "none needless", impl.EventsRead(strings.Join(parts(e), "")), impl.EventsOut{Events: []impl.Event{e}})
	}
	wantSyntax(t, "none, in two bytes", "\x80\x00")
}

func TestEventsReadLengths(t *testing.T) {
	e := impl.Event{Seq: 1, Time: 1, Run: 1, Kind: impl.EvSet, Step: "abc", Value: "defg"}
	for _, place := range []int{5, 7} {
		for _, n := range []int64{math.MinInt64, -1, 0, 1, 2, 5, 41, impl.MaxBytes, impl.MaxBytes + 1, math.MaxInt64} {
			row := parts(e)
			row[place] = string(binary.AppendVarint(nil, n))
			wantSyntax(t, fmt.Sprintf("length %d at %d", n, place), strings.Join(row, ""))
		}
	}
}

func TestEventsReadWrongEvents(t *testing.T) {
	for _, e := range allEdges() {
		for _, l := range [][]impl.Event{{e.event}, {right()[0], e.event}, {e.event, right()[5]}} {
			want := impl.EventsOut{Events: l}
			if !e.right {
				want = impl.EventsOut{Code: impl.ErrSyntax}
			}
			if len(laid(l)) > impl.MaxBytes {
				want = impl.EventsOut{Code: impl.ErrSize}
			}
			wantEvents(t, e.what, impl.EventsRead(laid(l)), want)
		}
	}
}

func TestEventsReadTooLong(t *testing.T) {
	tooLong := []struct {
		what string
		text string
	}{
		{"right events of one byte more than MaxBytes", laid(heavy(t, impl.MaxEvents, impl.MaxBytes+1))},
		{"right events of many bytes", laid(heavy(t, impl.MaxEvents, 13000))},
		{"right events of MaxBytes bytes, and one byte behind", laid(heavy(t, impl.MaxEvents, impl.MaxBytes)) + "\x00"},
		{"bytes that are none", strings.Repeat("\xff", impl.MaxBytes+1)},
		{"noughts", strings.Repeat("\x00", impl.MaxBytes+1)},
	}
	for _, l := range tooLong {
		wantEvents(t, l.what, impl.EventsRead(l.text), impl.EventsOut{Code: impl.ErrSize})
	}
	wantSyntax(t, "MaxBytes bytes that are none", strings.Repeat("\xff", impl.MaxBytes))
	wantSyntax(t, "MaxBytes noughts", strings.Repeat("\x00", impl.MaxBytes))
}

// plainEvents reads events by the document's words: those that, laid again, give just this text.
func plainEvents(text string) impl.EventsOut {
	rest, wrong := []byte(text), false
	num := func() int64 {
		n, size := binary.Varint(rest)
		wrong = wrong || size <= 0
		rest = rest[max(size, 0):]
		return n
	}
	word := func() string {
		n := num()
		wrong = wrong || n < 0 || n > int64(len(rest))
		if wrong {
			return ""
		}
		out := string(rest[:n])
		rest = rest[n:]
		return out
	}
	var l []impl.Event
	for range num() {
		e := impl.Event{Seq: num(), Time: num(), Run: num(), Kind: num(), Step: word(), Value: word()}
		wrong = wrong || !impl.EventRight(e) || len(l) == impl.MaxEvents
		if wrong {
			break
		}
		l = append(l, e)
	}
	if wrong || laid(l) != text {
		return impl.EventsOut{Code: impl.ErrSyntax}
	}
	return impl.EventsOut{Events: l}
}

func TestEventsReadAnyBytes(t *testing.T) {
	for size := range 7 {
		text := laid(many(size))
		for place := range len(text) {
			for bits := 1; bits < 256; bits++ {
				other := turned(text, place, byte(bits))
				wantEvents(t, fmt.Sprintf("%x", other), impl.EventsRead(other), plainEvents(other))
			}
		}
	}
	source := rand.New(rand.NewSource(3))
	come := 0
	for range 100000 {
		text := []byte{2}
		for range source.Intn(10) {
			b := 2 * source.Intn(7)
			if source.Intn(8) == 0 {
				b = source.Intn(256)
			}
			text = append(text, byte(b))
		}
		got := impl.EventsRead(string(text))
		wantEvents(t, fmt.Sprintf("%x", text), got, plainEvents(string(text)))
		if got.Code == impl.OK {
			come++
		}
	}
	if come == 0 {
		t.Error("none of these bytes were events: the test tells too little")
	}
}
