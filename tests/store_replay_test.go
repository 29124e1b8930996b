package tests

import (
	"math"
	"math/rand"
	"slices"
	"strconv"
	"strings"
	"testing"

	"loop.example/g00366/impl"
)

// wantReplayRefused: that code, and all else zero.
func wantReplayRefused(t *testing.T, what string, got impl.ReplayOut, code int64) {
	t.Helper()
	wantReplay(t, what, got, impl.ReplayOut{Code: code})
}

func TestReplayOfTheEmptyLog(t *testing.T) {
	for _, d := range append(shapes(), plain()) {
		wantReplay(t, "the empty log", impl.Replay(d, ""), impl.ReplayOut{Service: impl.Service{Def: d, Next: 1}})
	}
}

func TestReplayOfWrongDefs(t *testing.T) {
	for what, d := range wrongDefs() {
		for _, log := range append(diary(), "", "x", strings.Join(diary(), ""), filled(impl.MaxBytes)) {
			wantReplayRefused(t, what, impl.Replay(d, log), impl.ErrForm)
		}
		wantReplayRefused(t, what+", a log too long", impl.Replay(d, tooMuch()), impl.ErrSize)
	}
}

func TestReplayOfLongLogs(t *testing.T) {
	log := fullLog(t, impl.MaxBytes)
	got := impl.Replay(plain(), log)
	wantReplay(t, "MaxBytes", got, replays(plain(), log))
	if got.At != impl.MaxBytes || len(got.Service.Events) != 161 || got.Service.Next != 162 {
		t.Errorf("MaxBytes: got At %d, %d events, Next %d", got.At, len(got.Service.Events), got.Service.Next)
	}
	for _, long := range []string{log + "\x00", log + cleanRow(1), tooMuch(), filled(9000), filled(100000)} {
		wantReplayRefused(t, "more than MaxBytes", impl.Replay(plain(), long), impl.ErrSize)
	}
	for _, long := range []string{filled(impl.MaxBytes), strings.Repeat("\x00", impl.MaxBytes), strings.Repeat("\xff", impl.MaxBytes)} {
		wantReplay(t, "MaxBytes of no record", impl.Replay(plain(), long), impl.ReplayOut{Service: impl.ServiceNew(plain())})
	}
}

// The bytes as they stand there, so that no helper may be wrong together with the program.
func TestReplayOfBytesWrittenOut(t *testing.T) {
	d := impl.Def{Steps: []string{"a"}}
	one := impl.Event{Seq: 1, Time: 7, Run: 5, Kind: impl.EvStart}
	two := impl.Event{Seq: 2, Time: 8, Run: 5, Kind: impl.EvEnter, Step: "a"}
	start := "\x18\x49\x02\x02\x0e\x0a\x02\x00\x00\xe6\x3c\xae\x5a"
	enter := "\x1a\x49\x02\x02\x10\x0a\x04\x02\x61\x00\x43\xb4\xe4\xf8"
	clean := "\x0c\x43\x10\x5d\x1e\x3a\x87"
	wantReplay(t, "a start", impl.Replay(d, start), impl.ReplayOut{Service: serving(d, one), At: 13})
	wantReplay(t, "and an enter", impl.Replay(d, start+enter), impl.ReplayOut{Service: serving(d, one, two), At: 27})
	wantReplay(t, "and a cleaning", impl.Replay(d, start+enter+clean), impl.ReplayOut{Service: serving(d, one, two), At: 34})
	s := impl.StoreIngest(impl.Store{}, d, []impl.Event{one})
	wantStored(t, "a start", s, impl.StoreOut{Store: impl.Store{Log: start}, Many: 1})
	s = impl.StoreIngest(s.Store, d, []impl.Event{two})
	wantStored(t, "and an enter", s, impl.StoreOut{Store: impl.Store{Log: start + enter}, Many: 1})
	wantStored(t, "and a cleaning", impl.StoreCleanup(s.Store, d, 8), impl.StoreOut{Store: impl.Store{Log: start + enter + clean}})
}

func TestReplayUpToEachRecord(t *testing.T) {
	two, three := ending(2, 1, 0), ending(3, 5, 9)
	began := []impl.Event{three[0], three[1], two[0], three[2]}
	left := changed(two[0], func(e *impl.Event) { e.Seq = 3 })
	again := changed(three[0], func(e *impl.Event) { e.Seq, e.Time = 6, 0 })
	wants := []impl.Service{
		serving(plain()),
		serving(plain(), numbered(began[:2]...)...),
		serving(plain(), numbered(began...)...),
		serving(plain(), numbered(append(began, three[3])...)...),
		serving(plain(), numbered(append(began, three[3])...)...),
		nextAt(serving(plain(), left), 6),
		serving(plain(), left, again),
	}
	for i, want := range wants {
		log := strings.Join(diary()[:i], "")
		got := impl.Replay(plain(), log)
		wantReplay(t, strconv.Itoa(i)+" records", got, impl.ReplayOut{Service: want, At: int64(len(log))})
		wantRightService(t, strconv.Itoa(i)+" records", got.Service, true)
	}
}

func TestReplayOfALogThatIsCut(t *testing.T) {
	all := stops(plain(), strings.Join(diary(), ""))
	log := strings.Join(diary(), "")
	for size := range len(log) + 1 {
		var want stop
		for _, s := range all {
			if s.at <= size {
				want = s
			}
		}
		wantReplay(t, "cut at "+strconv.Itoa(size), impl.Replay(plain(), log[:size]), impl.ReplayOut{Service: want.service, At: int64(want.at)})
	}
}

// A turned byte of a length may still leave a text that is sealed only if it finds another seal, which it does not here.
func TestReplayOfALogWithAByteTurned(t *testing.T) {
	log := strings.Join(diary(), "")
	all := stops(plain(), log)
	for place := range log {
		var want stop
		for _, s := range all {
			if s.at <= place {
				want = s
			}
		}
		for _, bits := range []byte{1, 2, 64, 128, 255} {
			got := impl.Replay(plain(), turned(log, place, bits))
			wantReplay(t, "turned at "+strconv.Itoa(place), got, impl.ReplayOut{Service: want.service, At: int64(want.at)})
		}
	}
}

// wantStopsAt: bytes that are no record, or are refused, end a log wherever they stand in it, and what stands behind
// them is not gone on to.
func wantStopsAt(t *testing.T, what string, bad string) {
	t.Helper()
	for i := range len(diary()) + 1 {
		ahead := strings.Join(diary()[:i], "")
		want := impl.ReplayOut{Service: lastStop(plain(), ahead).service, At: int64(len(ahead))}
		wantReplay(t, what, impl.Replay(plain(), ahead+bad), want)
		wantReplay(t, what+", and more", impl.Replay(plain(), ahead+bad+strings.Join(diary()[i:], "")), want)
		wantReplay(t, what+", and a cleaning", impl.Replay(plain(), ahead+bad+cleanRow(impl.MaxTime)), want)
	}
}

func TestReplayStopsAtWhatIsNoRecord(t *testing.T) {
	good := batchRow(at(50, 0, impl.EvStart, ""))
	text, _, _ := textRow(good, 0)
	cases := map[string]string{
		"one byte":                          "x",
		"a nought":                          "\x00",
		"an empty text, unsealed":           varint(0),
		"a length below 0":                  varint(-1) + good[1:],
		"a length far below 0":              varint(math.MinInt64) + good[1:],
		"a length too far":                  varint(math.MaxInt64) + good[1:],
		"a length above MaxBytes":           varint(impl.MaxBytes+1) + good[1:],
		"a length one too great":            varint(int64(len(text)+5)) + good[1:],
		"a length one too small":            varint(int64(len(text)+3)) + good[1:],
		"a length in more bytes than needs": string([]byte{good[0] | 128, 0}) + good[1:],
		"a text of three bytes":             varint(3) + good[1:4],
		"a text that is not sealed":         varint(int64(len(text))) + text,
		"a seal without a length":           good[1:],
		"a seal of nothing":                 rowOf(""),
		"a seal of a seal":                  rowOf(sealedText(text)),
		"a wrong sum":                       good[:len(good)-1] + string(good[len(good)-1]^1),
		"the sum the highest byte first":    turnedSum(good),
		"a byte ahead":                      "\x00" + good,
		"a byte 73 alone":                   rowOf("I"),
		"a byte 67 alone":                   rowOf("C"),
		"no first byte, a batch":            rowOf(text[1:]),
		"two first bytes":                   rowOf("I" + text),
		"a first byte of each":              rowOf("IC" + varint(1)),
		"a time behind 73":                  rowOf("I" + varint(5)),
		"a batch behind 67":                 rowOf("C" + text[1:]),
	}
	for what, bad := range cases {
		wantStopsAt(t, what, bad)
	}
	for first := range 256 {
		if first != 73 {
			wantStopsAt(t, "a batch behind the byte "+strconv.Itoa(first), rowOf(string([]byte{byte(first)})+text[1:]))
		}
		if first != 67 {
			wantStopsAt(t, "a time behind the byte "+strconv.Itoa(first), rowOf(string([]byte{byte(first)})+varint(3)))
		}
	}
}

// turnedSum: that record with the bytes of its sum the other way round.
func turnedSum(row string) string {
	sum := []byte(row[len(row)-4:])
	slices.Reverse(sum)
	return row[:len(row)-4] + string(sum)
}

func TestReplayStopsAtABatchThatIsNone(t *testing.T) {
	start := at(50, 0, impl.EvStart, "")
	one := ones([]impl.Event{start})
	second := append(ones(one), setRun([]impl.Event{setting(0, "n", "v")}, 50)...)
	cases := map[string]string{
		"no events":               rowOf("I" + laid(nil)),
		"a nought in two bytes":   rowOf("I\x80\x00"),
		"fewer than it says":      rowOf("I" + counted(2, one)),
		"more than it says":       rowOf("I" + counted(1, second)),
		"none, but one is there":  rowOf("I" + counted(0, one)),
		"how many is below 0":     rowOf("I" + counted(-1, one)),
		"how many is too far":     rowOf("I" + counted(math.MaxInt64, one)),
		"a byte behind":           rowOf("I" + laid(one) + "\x00"),
		"an event behind":         rowOf("I" + laid(one) + laidEvent(second[1])),
		"a byte short":            rowOf("I" + laid(one)[:len(laid(one))-1]),
		"more than MaxEvents":     rowOf("I" + laid(ones(runsFrom(impl.MaxEvents+1)))),
		"the zero Event":          rowOf("I" + laid([]impl.Event{{}})),
		"a Value of a start":      rowOf("I" + laid([]impl.Event{changed(one[0], func(e *impl.Event) { e.Value = "v" })})),
		"the last one not right":  rowOf("I" + laid(append(ones(runsFrom(5)), impl.Event{Seq: 1}))),
		"a kind that is none":     rowOf("I" + laid([]impl.Event{changed(one[0], func(e *impl.Event) { e.Kind = 7 })})),
		"a Run that is none":      rowOf("I" + laid([]impl.Event{changed(one[0], func(e *impl.Event) { e.Run = 0 })})),
		"a Time that is none":     rowOf("I" + laid([]impl.Event{changed(one[0], func(e *impl.Event) { e.Time = -1 })})),
		"refused at once":         batchRow(at(50, 0, impl.EvEnd, "")),
		"refused at last":         batchRow(append(ending(50, 0, 9), at(50, 9, impl.EvEnd, ""))...),
		"a start twice":           batchRow(start, start),
		"too early":               batchRow(at(50, 7, impl.EvStart, ""), at(50, 6, impl.EvEnter, "only")),
		"a step that has no mark": batchRow(start, at(50, 1, impl.EvLeave, "only")),
		"a step of no Def":        batchRow(start, at(50, 1, impl.EvEnter, "elsewhere")),
		"more than 20 Vars":       batchRow(append([]impl.Event{start}, setsOf(50, 21)...)...),
	}
	for what, bad := range cases {
		wantStopsAt(t, what, bad)
	}
	for _, seq := range []int64{math.MinInt64, -1, 0, 2, 3, 63, impl.MaxTime, impl.MaxTime + 1, math.MaxInt64} {
		l := ones(runsFrom(3))
		for i := range l {
			bad := slices.Clone(l)
			bad[i].Seq = seq
			wantStopsAt(t, "a Seq that is not 1", rowOf("I"+laid(bad)))
		}
		wantStopsAt(t, "Seqs that are not 1", rowOf("I"+laid(numbered(l...))))
	}
}

// setsOf: so many events of that run, each of a Var of its own.
func setsOf(run int64, size int) []impl.Event {
	var out []impl.Event
	for i := range size {
		out = append(out, setting(0, "n"+strconv.Itoa(i), "v"))
	}
	return setRun(out, run)
}

func TestReplayStopsAtACleaningThatIsNone(t *testing.T) {
	for _, before := range []int64{math.MinInt64, -impl.MaxTime, -1, impl.MaxTime + 1, 1 << 40, math.MaxInt64} {
		wantStopsAt(t, "no time", cleanRow(before))
	}
	for what, text := range map[string]string{
		"a byte behind":             varint(3) + "\x00",
		"a number behind":           varint(3) + varint(3),
		"no last byte":              "\x80",
		"more bytes than are need":  "\x86\x00",
		"eleven bytes":              strings.Repeat("\xff", 10) + "\x01",
		"a text behind":             varint(3) + "words",
		"many bytes behind":         varint(3) + filled(300),
		"a tenth byte that is two":  strings.Repeat("\xff", 9) + "\x02",
		"nothing that is a number":  strings.Repeat("\xff", 300),
		"a time that is a record":   cleanRow(3),
		"a nought in its own bytes": "\x80\x80\x00",
	} {
		wantStopsAt(t, what, rowOf("C"+text))
	}
	for _, before := range []int64{0, 1, 9, 63, 64, impl.MaxTime - 1, impl.MaxTime} {
		log := strings.Join(diary()[:3], "") + cleanRow(before)
		want := lastStop(plain(), strings.Join(diary()[:3], "")).service
		wantReplay(t, "a time", impl.Replay(plain(), log), impl.ReplayOut{Service: cleaned(want, before).Service, At: int64(len(log))})
	}
}

func TestReplayOfMoreThanMaxEventsInAll(t *testing.T) {
	for _, had := range []int{0, 1, 100, impl.MaxEvents - 1, impl.MaxEvents} {
		for _, size := range []int{1, 2, 100, impl.MaxEvents} {
			var log string
			if had > 0 {
				log = batchRow(spread(had)...)
			}
			all := log + batchRow(runsFrom(size)...)
			want := impl.ReplayOut{Service: serving(loops(), spread(had)...), At: int64(len(log))}
			if had+size <= impl.MaxEvents {
				want = impl.ReplayOut{Service: serving(loops(), numbered(append(spread(had), runsFrom(size)...)...)...), At: int64(len(all))}
			}
			wantReplay(t, "as many as come to all", impl.Replay(loops(), all), want)
		}
	}
	over := batchRow(runsFrom(impl.MaxEvents + 1)...)
	wantReplay(t, "more than MaxEvents", impl.Replay(loops(), over), impl.ReplayOut{Service: impl.ServiceNew(loops())})
}

// A cleaning makes room, and gives runs back their numbers; Next goes on.
func TestReplayBeyondMaxEventsWithCleanings(t *testing.T) {
	var log string
	for range 6 {
		var l []impl.Event
		for run := range int64(20) {
			l = append(l, ending(run+1, 1, 2)...)
		}
		log += batchRow(l...) + cleanRow(2)
	}
	log += batchRow(at(1, 0, impl.EvStart, ""))
	want := impl.Service{Def: plain(), Events: []impl.Event{{Seq: 481, Run: 1, Kind: impl.EvStart}}, Next: 482}
	wantReplay(t, "six times eighty", impl.Replay(plain(), log), impl.ReplayOut{Service: want, At: int64(len(log))})
}

func TestReplayOfManyRecords(t *testing.T) {
	log := batchRow(runsFrom(impl.MaxEvents)...)
	for len(log)+7 <= impl.MaxBytes {
		log += cleanRow(9)
	}
	got := impl.Replay(loops(), log)
	if got.Code != impl.OK || got.At != int64(len(log)) || len(got.Service.Events) != impl.MaxEvents {
		t.Errorf("as many records as may be: got Code %d, At %d of %d, %d events", got.Code, got.At, len(log), len(got.Service.Events))
	}
	log = ""
	for run := int64(1); len(log)+20 <= impl.MaxBytes; run++ {
		log += batchRow(at(run, run, impl.EvStart, ""))
	}
	got = impl.Replay(loops(), log)
	if got.Code != impl.OK || len(got.Service.Events) != impl.MaxEvents || got.At >= int64(len(log)) || got.Service.Next != impl.MaxEvents+1 {
		t.Errorf("as many batches as may be: got Code %d, At %d of %d, %d events", got.Code, got.At, len(log), len(got.Service.Events))
	}
}

func TestReplayAsTheDocumentSays(t *testing.T) {
	source := rand.New(rand.NewSource(101))
	whole, part := 0, 0
	for _, d := range append(shapes(), plain(), plain()) {
		for range 8 {
			rows := someRows(source, d, 25)
			log := strings.Join(rows, "")
			wantReplay(t, "a right log", impl.Replay(d, log), replays(d, log))
			for range 10 {
				bad := spoiltRows(source, rows)
				got, want := impl.Replay(d, bad), replays(d, bad)
				wantReplay(t, "a log that was changed", got, want)
				wantRightService(t, "a log that was changed", got.Service, true)
				if want.At == int64(len(bad)) {
					whole++
				} else {
					part++
				}
			}
		}
	}
	if whole < 50 || part < 200 {
		t.Errorf("%d whole and %d in part are too few to tell", whole, part)
	}
}

// spoiltRows: a log of these records with something done to it, of at most MaxBytes bytes.
func spoiltRows(source *rand.Rand, rows []string) string {
	if len(rows) == 0 {
		return ""
	}
	rows = slices.Clone(rows)
	one, other := source.Intn(len(rows)), source.Intn(len(rows))
	switch source.Intn(7) {
	case 0:
		rows[one], rows[other] = rows[other], rows[one]
	case 1:
		rows = slices.Delete(rows, one, one+1)
	case 2:
		rows = slices.Insert(rows, one, rows[other])
	case 3:
		rows[one] = rows[one][:source.Intn(len(rows[one]))]
	case 4:
		rows[one] = turned(rows[one], source.Intn(len(rows[one])), byte(1+source.Intn(255)))
	case 5:
		rows = slices.Insert(rows, one, cleanRow(int64(source.Intn(90)-3)))
	case 6:
		rows = slices.Insert(rows, one, filled(source.Intn(30)))
	}
	out := strings.Join(rows, "")
	return out[:min(len(out), impl.MaxBytes)]
}

func TestReplayIsNewAndLeavesWhatItIsGiven(t *testing.T) {
	source := rand.New(rand.NewSource(102))
	for _, d := range append(shapes(), plain()) {
		for _, log := range []string{"", strings.Join(someRows(source, d, 9), ""), strings.Join(someRows(source, d, 9), "") + "x"} {
			given := copiedDef(d)
			got, want := impl.Replay(given, log), replays(d, log)
			wantDefAsItWas(t, "Replay", given, copiedDef(d))
			texts := append(defTexts(given), log)
			clear(given.Steps)
			clear(given.Flows)
			wantReplay(t, "behind a change of what was given", got, want)
			wantOwnService(t, "Replay", got.Service, texts)
			given = copiedDef(d)
			wipe(impl.Replay(given, log).Service)
			wantDefAsItWas(t, "Replay, what it told wiped", given, copiedDef(d))
		}
	}
}
