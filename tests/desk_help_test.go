package tests

import (
	"fmt"
	"math/rand"
	"regexp"
	"slices"
	"strconv"
	"strings"
	"testing"

	"loop.example/g00366/impl"
)

// process: the Def of a desk.
func process() impl.Def {
	return impl.Def{Steps: []string{"a", "b", "c"}, Flows: flows("a b", "a c", "b c")}
}

// turn: a line, and what it tells.
type turn struct {
	line string
	told string
}

// deskText: these lines, each with its line feed.
func deskText(lines ...string) string {
	var out strings.Builder
	for _, line := range lines {
		out.WriteString(line + "\n")
	}
	return out.String()
}

// wantDesk: that is told of the text, by DeskFault without what is told line by line.
func wantDesk(t *testing.T, what string, text string, want impl.DeskOut) {
	t.Helper()
	if got := impl.DeskRun(text); got != want {
		t.Errorf("%s: got %+v, want %+v", what, got, want)
	}
	want.Text = ""
	if got := impl.DeskFault(text); got != want {
		t.Errorf("%s: DeskFault: got %+v, want %+v", what, got, want)
	}
}

// wantTurns: each line tells what stands beside it, all at one desk.
func wantTurns(t *testing.T, turns ...turn) {
	t.Helper()
	var lines, want []string
	for _, x := range turns {
		lines, want = append(lines, x.line), append(want, x.told)
	}
	got := impl.DeskRun(deskText(lines...))
	if got.Code != impl.OK || got.Line != 0 {
		t.Fatalf("%q: got Code %d, Line %d", lines, got.Code, got.Line)
	}
	told := strings.SplitAfter(got.Text, "\n")
	for i, x := range turns {
		if i >= len(told) || told[i] != x.told+"\n" {
			t.Fatalf("the line %d, %q: got %q, want %q", i, x.line, told[min(i, len(told)-1)], x.told)
		}
	}
	wantDesk(t, "all lines", deskText(lines...), impl.DeskOut{Text: deskText(want...)})
}

// wantNoDesk: the text is refused by that line.
func wantNoDesk(t *testing.T, text string, line int) {
	t.Helper()
	shown := text[:min(len(text), 200)]
	wantDesk(t, strconv.Quote(shown), text, impl.DeskOut{Line: int64(line), Code: impl.ErrSyntax})
}

// aLine: all lines that a desk may have, without their line feeds.
var aLine = func() *regexp.Regexp {
	number, word := ` (?:0|[1-9][0-9]{0,8})`, ` [^ \n]+`
	return regexp.MustCompile(`\A(?:(?:start|end|asof)` + number + number +
		`|(?:enter|leave|fault)` + number + number + word +
		`|set` + number + number + word + word +
		`|(?:clean|crash)` + number +
		`|times|sync|ask [^\n]*)\z`)
}()

// firstFault: the first wrong line of a desk's text, told over again: -1, if there is none.
func firstFault(text string) int {
	for i, line := range strings.SplitAfter(text, "\n") {
		if line == "" {
			continue // what stands behind the last line feed
		}
		if i == 40 || !strings.HasSuffix(line, "\n") || !aLine.MatchString(strings.TrimSuffix(line, "\n")) {
			return i
		}
	}
	return -1
}

// ledger: what a desk has, told over again: where each record ends, and the Service behind it; up to where it is synced.
type ledger struct {
	stops  []stop
	synced int
}

func newLedger() *ledger {
	return &ledger{stops: []stop{{0, impl.Service{Def: process(), Next: 1}}}}
}

func (l *ledger) last() stop {
	return l.stops[len(l.stops)-1]
}

func (l *ledger) events() []impl.Event {
	return l.last().service.Events
}

// kept: the record of so many bytes is at the end, if it was taken.
func (l *ledger) kept(x impl.ServiceOut, size int) {
	if x.Code == impl.OK {
		l.stops = append(l.stops, stop{l.last().at + size, x.Service})
	}
}

// crash leaves the records that lie whole within what was synced and so many bytes more.
func (l *ledger) crash(keep int) string {
	end := l.synced + keep
	l.stops = slices.DeleteFunc(l.stops, func(x stop) bool { return x.at > end })
	l.synced = l.last().at
	return fmt.Sprintf("events %d", len(l.events()))
}

// happens: what a line tells that has an event happen.
func (l *ledger) happens(words []string) string {
	e := impl.Event{Time: int64(numeral(words[1])), Run: int64(numeral(words[2])), Kind: int64(1 + slices.Index(kindWords(), words[0]))}
	rest := append(words[3:], "", "")
	e.Step, e.Value = rest[0], rest[1]
	x := ingested(l.last().service, []impl.Event{e})
	l.kept(x, len(batchRow(e)))
	if x.Code != impl.OK {
		return fmt.Sprintf("error %d", x.Code)
	}
	return "ok"
}

// asks: what a line tells that asks.
func (l *ledger) asks(text string) string {
	words := slices.DeleteFunc(strings.Split(text, " "), func(word string) bool { return word == "" })
	if at := faultAt(words); at >= 0 {
		return fmt.Sprintf("error 3 %d", at)
	}
	var out []string
	for _, a := range answered(l.events(), impl.QueryRead(text).Query) {
		if a.Seq != 0 {
			out = append(out, fmt.Sprint(a.Seq))
		} else {
			out = append(out, fmt.Sprintf("%s:%d", a.Label, a.N))
		}
	}
	return dashed(out, " ")
}

func (l *ledger) stands(run int, time int) string {
	if time > impl.MaxTime {
		return "error 1"
	}
	x := asOf(process(), l.events(), int64(run), int64(time))
	if x.Code != impl.OK {
		return fmt.Sprintf("error %d", x.Code)
	}
	return fmt.Sprint(x.State.Status, " "+dashed(x.State.Wait, ",")+" "+dashed(x.State.Busy, ",")+" ", x.State.Faults)
}

func (l *ledger) lasted() string {
	var out []string
	for _, x := range durations(process(), l.events()) {
		out = append(out, fmt.Sprintf("%s:%d,%d", x.Step, x.Count, x.Sum))
	}
	return dashed(out, " ")
}

func (l *ledger) cleans(before int) string {
	x := cleaned(l.last().service, int64(before))
	l.kept(x, len(cleanRow(int64(before))))
	if x.Code != impl.OK {
		return fmt.Sprintf("error %d", x.Code)
	}
	return fmt.Sprintf("ok %d", x.Many)
}

// tells: what the document says of a right line, told over again.
func (l *ledger) tells(line string) string {
	words := strings.Split(line, " ")
	switch words[0] {
	case "ask":
		return l.asks(line[4:])
	case "asof":
		return l.stands(numeral(words[1]), numeral(words[2]))
	case "times":
		return l.lasted()
	case "clean":
		return l.cleans(numeral(words[1]))
	case "sync":
		l.synced = l.last().at
		return "synced"
	case "crash":
		return l.crash(numeral(words[1]))
	}
	return l.happens(words)
}

// desked: what the document says of a desk's text, told over again.
func desked(text string) impl.DeskOut {
	if len(text) > impl.MaxBytes {
		return impl.DeskOut{Code: impl.ErrSize}
	}
	if line := firstFault(text); line >= 0 {
		return impl.DeskOut{Line: int64(line), Code: impl.ErrSyntax}
	}
	var out []string
	l := newLedger()
	for line := range strings.Lines(text) {
		out = append(out, l.tells(strings.TrimSuffix(line, "\n")))
	}
	return impl.DeskOut{Text: deskText(out...)}
}

// numeral: the number that digits write.
func numeral(word string) int {
	n, err := strconv.Atoi(word)
	if err != nil {
		panic(err)
	}
	return n
}

// dashed: these with that between, or a stroke.
func dashed(l []string, between string) string {
	if len(l) == 0 {
		return "-"
	}
	return strings.Join(l, between)
}

// eventLine: the line that has that event happen.
func eventLine(e impl.Event) string {
	words := []string{kindWords()[e.Kind-1], fmt.Sprint(e.Time), fmt.Sprint(e.Run), e.Step, e.Value}
	return strings.Join(slices.DeleteFunc(words, func(word string) bool { return word == "" }), " ")
}

// someHappening: a line of an event that may happen at that desk; most often one that enters or leaves.
func someHappening(source *rand.Rand, l *ledger) string {
	run := somePick[int64](source, 1, 1, 2, 2, 3, 70)
	s := stateOf(process(), ownOf(l.events(), run)).State
	time := s.Last + somePick[int64](source, 0, 0, 1, 3, 60)
	for _, e := range movesAt(source, process(), run, time) {
		if e.Kind == impl.EvSet {
			e.Value = somePick(source, "v", "w", "x_1", "\xff", "9")
		}
		if expected(process(), s, e).Code == impl.OK {
			return eventLine(e)
		}
	}
	return "sync"
}

// someWrongEvent: a line of an event that most often may not happen.
func someWrongEvent(source *rand.Rand) string {
	number := func() string { return somePick(source, "0", "1", "2", "70", "1000000", "1000001", "999999999") }
	word := func() string { return somePick(source, "a", "b", "c", "d", "A", "\xff", longWord(20), longWord(21)) }
	out := somePick(source, kindWords()...)
	out += " " + number() + " " + number()
	switch strings.Split(out, " ")[0] {
	case "set":
		return out + " " + word() + " " + somePick(source, "v", "\xe2\x82", strings.Repeat("v", 40), strings.Repeat("v", 41))
	case "start", "end":
		return out
	}
	return out + " " + word()
}

// someAsking: a line that asks, most often a right query; as often one that counts as any.
func someAsking(source *rand.Rand) string {
	ends := eachEnd()
	counts := slices.DeleteFunc(slices.Clone(ends), func(q impl.Query) bool { return !q.Count })
	q := somePick(source, somePick(source, ends, counts)...)
	q.Conds = someConds(source, source.Intn(3))
	text := strings.ReplaceAll(written(q), " ", somePick(source, " ", " ", "  "))
	return "ask " + somePick(source, text, text, text, " "+text+" ", text[:source.Intn(len(text)+1)], "")
}

// someLine: any right line, for a desk that has that.
func someLine(source *rand.Rand, l *ledger) string {
	number := func() string { return somePick(source, "0", "1", "13", "14", "40", "70", "1000000", "1000001") }
	switch source.Intn(14) {
	case 0:
		return someWrongEvent(source)
	case 1:
		return someAsking(source)
	case 2:
		return "asof " + somePick(source, "1", "2", "3", "4", "70") + " " + number()
	case 3:
		return "times"
	case 4:
		return "clean " + number()
	case 5:
		return somePick(source, "sync", "crash "+number(), "crash "+number())
	}
	return someHappening(source, l)
}

// someDesk: so many right lines of a desk.
func someDesk(source *rand.Rand, size int) []string {
	l := newLedger()
	var out []string
	for range size {
		line := someLine(source, l)
		l.tells(line)
		out = append(out, line)
	}
	return out
}
