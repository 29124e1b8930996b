package tests

import (
	"fmt"
	"math/rand"
	"slices"
	"strconv"
	"strings"
	"testing"

	"loop.example/g00366/impl"
)

// askNumbers: numbers of several lengths, of which events and conds have some.
func askNumbers() []int64 {
	return []int64{1, 2, 3, 9, 10, 11, 99, 100, 101, 1000, 9999, 10000, 100000, 999999, impl.MaxTime}
}

// askWords: words that steps and values have, and that are asked for.
func askWords() []string {
	return []string{"a", "b", "ab", "a_b", "a1", "end", "start"}
}

// someEvent: a right event of any kind.
func someEvent(source *rand.Rand) impl.Event {
	numbers := askNumbers()
	e := impl.Event{
		Seq:  somePick(source, numbers...),
		Time: somePick(source, append(numbers, 0)...),
		Run:  somePick(source, numbers...),
		Kind: int64(1 + source.Intn(6)),
	}
	if e.Kind != impl.EvStart && e.Kind != impl.EvEnd {
		e.Step = somePick(source, askWords()...)
	}
	if e.Kind == impl.EvSet {
		e.Value = somePick(source, append(askWords(), "", "some words", "\x00", "\xff", "A", "7", "10", strings.Repeat("v", 40))...)
	}
	return e
}

// someEvents: so many right events, in no order at all.
func someEvents(source *rand.Rand, size int) []impl.Event {
	var out []impl.Event
	for range size {
		out = append(out, someEvent(source))
	}
	return out
}

// eventLists: lists of right events of many kinds.
func eventLists(source *rand.Rand) [][]impl.Event {
	out := [][]impl.Event{nil, several(), right(), whole(), many(impl.MaxEvents), spread(impl.MaxEvents)}
	for _, size := range []int{1, 2, 3, 5, 10, 50, impl.MaxEvents - 1, impl.MaxEvents} {
		out = append(out, someEvents(source, size))
	}
	for _, d := range shapes() {
		out = append(out, someHistory(source, d))
	}
	return out
}

// someAsked: a right Cond that holds of some events.
func someAsked(source *rand.Rand) impl.Cond {
	field := somePick(source, allFields()...)
	switch field {
	case "kind":
		return impl.Cond{Field: field, Op: somePick(source, "=", "!="), Word: somePick(source, kindWords()...)}
	case "step", "value":
		return impl.Cond{Field: field, Op: somePick(source, "=", "!=", "!="), Word: somePick(source, askWords()...)}
	}
	return impl.Cond{Field: field, Op: somePick(source, numberOps()...), N: somePick(source, append(askNumbers(), 0)...)}
}

// someConds: so many of these.
func someConds(source *rand.Rand, size int) []impl.Cond {
	var out []impl.Cond
	for range size {
		out = append(out, someAsked(source))
	}
	return out
}

// fieldText: what an event has in a field, numbers in seven digits, so that the order of texts is theirs.
func fieldText(e impl.Event, field string) string {
	switch field {
	case "seq":
		return fmt.Sprintf("%07d", e.Seq)
	case "time":
		return fmt.Sprintf("%07d", e.Time)
	case "run":
		return fmt.Sprintf("%07d", e.Run)
	case "kind":
		return kindWords()[e.Kind-1]
	case "step":
		return e.Step
	case "value":
		return e.Value
	}
	panic("no field: " + field)
}

// condHolds: whether a Cond holds of an event, told over again by texts.
func condHolds(c impl.Cond, e impl.Event) bool {
	asked := c.Word
	if slices.Contains(numberFields(), c.Field) {
		asked = fmt.Sprintf("%07d", c.N)
	}
	order := strings.Compare(fieldText(e, c.Field), asked)
	return slices.Contains(map[int][]string{-1: {"!=", "<", "<="}, 0: {"=", "<=", ">="}, 1: {"!=", ">", ">="}}[order], c.Op)
}

// holding: those events of which each Cond holds, told over again.
func holding(l []impl.Event, conds []impl.Cond) []impl.Event {
	return slices.DeleteFunc(slices.Clone(l), func(e impl.Event) bool {
		return slices.ContainsFunc(conds, func(c impl.Cond) bool { return !condHolds(c, e) })
	})
}

// inOrder: these events by a field, told over again: each goes behind all that do not stand behind it.
func inOrder(l []impl.Event, field string, down bool) []impl.Event {
	var out []impl.Event
	for _, e := range l {
		place := len(out)
		for place > 0 {
			order := strings.Compare(fieldText(out[place-1], field), fieldText(e, field))
			if order == 0 || down == (order > 0) {
				break
			}
			place--
		}
		out = slices.Insert(out, place, e)
	}
	return out
}

// tally: how many events there are of each value, told over again.
func tally(l []impl.Event, field string) []impl.Answer {
	var values []string
	for _, e := range l {
		values = append(values, fieldText(e, field))
	}
	slices.Sort(values)
	var out []impl.Answer
	for i, value := range values {
		if i > 0 && values[i-1] == value {
			out[len(out)-1].N++
			continue
		}
		if slices.Contains(numberFields(), field) {
			n, _ := strconv.Atoi(value)
			value = strconv.Itoa(n)
		}
		out = append(out, impl.Answer{Label: value, N: 1})
	}
	return out
}

// answered: what is answered to a right Query of at most MaxEvents right events, told over again.
func answered(l []impl.Event, q impl.Query) []impl.Answer {
	found := holding(l, q.Conds)
	if q.Count && q.By == "" {
		return []impl.Answer{{N: int64(len(found))}}
	}
	if q.Count {
		return tally(found, q.By)
	}
	if q.Order != "" {
		found = inOrder(found, q.Order, q.Down)
	}
	var out []impl.Answer
	for i, e := range found {
		if q.Limit < 0 || int64(i) < q.Limit {
			out = append(out, impl.Answer{Seq: e.Seq})
		}
	}
	return out
}

// seqs: an Answer of each of these Seqs.
func seqs(l ...int64) []impl.Answer {
	var out []impl.Answer
	for _, seq := range l {
		out = append(out, impl.Answer{Seq: seq})
	}
	return out
}

// asked: what is answered to a query as it is written.
func asked(t *testing.T, l []impl.Event, text string) []impl.Answer {
	t.Helper()
	q := impl.QueryRead(text)
	if q.Code != impl.OK {
		t.Fatalf("%q is no query", text)
	}
	return impl.Ask(l, q.Query)
}
