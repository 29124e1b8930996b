package tests

import (
	"math/rand"
	"reflect"
	"slices"
	"testing"

	"loop.example/g00366/impl"
)

// at: a right event, but for its Seq.
func at(run int64, time int64, kind int64, step string) impl.Event {
	return impl.Event{Time: time, Run: run, Kind: kind, Step: step}
}

// numbered: these events with rising Seqs, the first one 1.
func numbered(l ...impl.Event) []impl.Event {
	out := slices.Clone(l)
	for i := range out {
		out[i].Seq = int64(i + 1)
	}
	return out
}

// twice: a goes to itself and to b, so that many marks come to b.
func twice() impl.Def {
	return impl.Def{Steps: []string{"a", "b"}, Flows: flows("a a", "a b")}
}

// stayed: a run of twice in which b is entered three times before it is left, and then once more; a waits at the end.
func stayed(run int64) []impl.Event {
	return []impl.Event{
		at(run, 0, impl.EvStart, ""),
		at(run, 1, impl.EvEnter, "a"), at(run, 1, impl.EvLeave, "a"),
		at(run, 1, impl.EvEnter, "a"), at(run, 4, impl.EvLeave, "a"),
		at(run, 4, impl.EvEnter, "a"), at(run, 9, impl.EvLeave, "a"),
		at(run, 10, impl.EvEnter, "b"),
		at(run, 20, impl.EvEnter, "b"),
		at(run, 50, impl.EvEnter, "b"),
		at(run, 60, impl.EvLeave, "b"), // 50, of the one of 10
		at(run, 61, impl.EvLeave, "b"), // 41, of the one of 20
		at(run, 70, impl.EvEnter, "a"), at(run, 75, impl.EvLeave, "a"),
		at(run, 80, impl.EvEnter, "b"),
		at(run, 83, impl.EvLeave, "b"), // 33, of the one of 50
	}
}

// movesAt: events of a run at that time, most of which enter or leave a step, in any order.
func movesAt(source *rand.Rand, d impl.Def, run int64, time int64) []impl.Event {
	out := []impl.Event{at(run, time, impl.EvStart, "")}
	for _, step := range d.Steps {
		out = append(out, at(run, time, impl.EvEnter, step), at(run, time, impl.EvLeave, step))
	}
	if source.Intn(5) == 0 {
		set := at(run, time, impl.EvSet, somePick(source, "who", "how"))
		set.Value = somePick(source, "", "some words", "\x00")
		out = append(out, set, at(run, time, impl.EvFault, somePick(source, d.Steps...)), at(run, time, impl.EvEnd, ""))
	}
	source.Shuffle(len(out), func(i int, j int) { out[i], out[j] = out[j], out[i] })
	return out
}

// someMoves: that many events of a run at most, that may happen one behind the other.
func someMoves(source *rand.Rand, d impl.Def, run int64, size int) []impl.Event {
	var out []impl.Event
	var s impl.State
	for range size {
		for _, e := range movesAt(source, d, run, min(s.Last+somePick[int64](source, 0, 0, 1, 7), impl.MaxTime)) {
			if x := expected(d, s, e); x.Code == impl.OK {
				out, s = append(out, e), x.State
				break
			}
		}
	}
	return out
}

// mixed: these runs' events in one history, those of each in order, with rising Seqs.
func mixed(source *rand.Rand, runs ...[]impl.Event) []impl.Event {
	var out []impl.Event
	var seq int64
	for {
		runs = slices.DeleteFunc(slices.Clone(runs), func(l []impl.Event) bool { return len(l) == 0 })
		if len(runs) == 0 {
			return out
		}
		which := source.Intn(len(runs))
		e := runs[which][0]
		runs[which] = runs[which][1:]
		seq += somePick[int64](source, 1, 1, 2, 90)
		e.Seq = seq
		out = append(out, e)
	}
}

// someHistory: a right one of that Def, of several runs.
func someHistory(source *rand.Rand, d impl.Def) []impl.Event {
	numbers := []int64{1, 2, 3, 64, 500, impl.MaxTime - 1, impl.MaxTime}
	source.Shuffle(len(numbers), func(i int, j int) { numbers[i], numbers[j] = numbers[j], numbers[i] })
	several := 1 + source.Intn(len(numbers))
	var runs [][]impl.Event
	for _, run := range numbers[:several] {
		runs = append(runs, someMoves(source, d, run, 1+source.Intn(impl.MaxEvents/several)))
	}
	return mixed(source, runs...)
}

// spread: so many events, each the start of a run of its own.
func spread(size int) []impl.Event {
	var out []impl.Event
	for i := range size {
		out = append(out, at(int64(1+(i*7)%1009), int64(i), impl.EvStart, ""))
	}
	return numbered(out...)
}

// ownOf: the events of that run, told over again.
func ownOf(l []impl.Event, run int64) []impl.Event {
	return slices.DeleteFunc(slices.Clone(l), func(e impl.Event) bool { return e.Run != run })
}

// runNumbers: those of the events, rising, told over again.
func runNumbers(l []impl.Event) []int64 {
	there := map[int64]bool{}
	var out []int64
	for _, e := range l {
		if !there[e.Run] {
			out = append(out, e.Run)
		}
		there[e.Run] = true
	}
	slices.Sort(out)
	return out
}

// stateOf: how a run stands, told over again by what each event does.
func stateOf(d impl.Def, l []impl.Event) impl.StateOut {
	var s impl.State
	for _, e := range l {
		if !impl.EventRight(e) {
			return impl.StateOut{Code: impl.ErrForm}
		}
		behind := expected(d, s, e)
		if behind.Code != impl.OK {
			return behind
		}
		s = behind.State
	}
	return impl.StateOut{State: s}
}

// historyRight: what a right history is, told over again.
func historyRight(d impl.Def, l []impl.Event) bool {
	if !impl.DefRight(d) || len(l) > impl.MaxEvents {
		return false
	}
	for i, e := range l {
		for _, ahead := range l[:i] {
			if ahead.Seq >= e.Seq {
				return false
			}
		}
	}
	for _, run := range runNumbers(l) {
		if stateOf(d, ownOf(l, run)).Code != impl.OK {
			return false
		}
	}
	return true
}

// spoilt: that history with something done to it, after which it is right or not.
func spoilt(source *rand.Rand, l []impl.Event) []impl.Event {
	l = slices.Clone(l)
	one, other := source.Intn(len(l)), source.Intn(len(l))
	switch source.Intn(7) {
	case 0:
		l[one], l[other] = l[other], l[one]
	case 1:
		l = slices.Delete(l, one, one+1)
	case 2:
		l[one].Seq = l[other].Seq
	case 3:
		l[one].Run = l[other].Run
	case 4:
		l[one].Time = l[other].Time
	case 5:
		l[one].Step, l[one].Kind = l[other].Step, l[other].Kind
	case 6:
		l[one].Value += "v"
	}
	return l
}

func wantList[T comparable](t *testing.T, what string, got []T, want []T) {
	t.Helper()
	if !slices.Equal(got, want) {
		t.Errorf("%s: got %+v, want %+v", what, got, want)
	}
}

// wantNoList: nothing is told, as an answer that is refused or that has nothing in it.
func wantNoList[T any](t *testing.T, what string, got []T) {
	t.Helper()
	if len(got) != 0 {
		t.Errorf("%s: got %d items, want none", what, len(got))
	}
}

func wantHistory(t *testing.T, what string, got bool, want bool) {
	t.Helper()
	if got != want {
		t.Errorf("%s: got %t, want %t", what, got, want)
	}
}

// roomy: those events with room behind them, which holds what nobody may write to.
func roomy(l []impl.Event) []impl.Event {
	return append(slices.Clone(l), impl.Event{Seq: -1, Value: "behind"}, impl.Event{Seq: -2, Value: "behind"})[:len(l)]
}

// wantAsItWas: the list of which this is a roomy copy is as it was, and so is the room behind it.
func wantAsItWas(t *testing.T, what string, given []impl.Event, was []impl.Event) {
	t.Helper()
	if !slices.Equal(given, was) || given[:len(given)+1][len(given)] != (impl.Event{Seq: -1, Value: "behind"}) {
		t.Errorf("%s: changed what it was given", what)
	}
}

func wantDefAsItWas(t *testing.T, what string, given impl.Def, was impl.Def) {
	t.Helper()
	if !reflect.DeepEqual(given, was) {
		t.Errorf("%s: changed the Def that it was given: %+v, which was %+v", what, given, was)
	}
}

// eventTexts: all texts of events.
func eventTexts(l []impl.Event) []string {
	var out []string
	for _, e := range l {
		out = append(out, e.Step, e.Value)
	}
	return out
}

// wantApart: no text of the one list lies in memory of one of the other.
func wantApart(t *testing.T, what string, told []string, given []string) {
	t.Helper()
	for _, text := range told {
		for _, other := range given {
			if sharesMemory(text, other) {
				t.Errorf("%s: the text %q is that of an argument", what, text)
			}
		}
	}
}
