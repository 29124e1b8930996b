package tests

import (
	"math/rand"
	"slices"
	"strings"
	"testing"

	"loop.example/g00366/impl"
)

// logged: events of three runs, no history: one Seq, one Time and one Run stand at several of them.
func logged() []impl.Event {
	return []impl.Event{
		{Seq: 8, Time: 10, Run: 2, Kind: impl.EvStart},
		{Seq: 3, Time: 9, Run: 10, Kind: impl.EvEnter, Step: "a"},
		{Seq: 5, Time: 10, Run: 2, Kind: impl.EvEnter, Step: "b"},
		{Seq: 4, Time: 0, Run: 10, Kind: impl.EvSet, Step: "a", Value: "b"},
		{Seq: 9, Time: 9, Run: impl.MaxTime, Kind: impl.EvSet, Step: "who"},
		{Seq: 3, Time: 100, Run: 2, Kind: impl.EvLeave, Step: "a"},
		{Seq: 1, Time: impl.MaxTime, Run: 2, Kind: impl.EvEnd},
		{Seq: 7, Time: 10, Run: 10, Kind: impl.EvFault, Step: "b"},
	}
}

// Which are found, by their Seqs.
func TestAskEachFieldUnderEachOp(t *testing.T) {
	for text, want := range map[string][]int64{
		"find":                       {8, 3, 5, 4, 9, 3, 1, 7},
		"find where seq = 3":         {3, 3},
		"find where seq != 3":        {8, 5, 4, 9, 1, 7},
		"find where seq < 4":         {3, 3, 1},
		"find where seq <= 4":        {3, 4, 3, 1},
		"find where seq > 7":         {8, 9},
		"find where seq >= 7":        {8, 9, 7},
		"find where time = 10":       {8, 5, 7},
		"find where time != 10":      {3, 4, 9, 3, 1},
		"find where time < 10":       {3, 4, 9},
		"find where time <= 10":      {8, 3, 5, 4, 9, 7},
		"find where time > 10":       {3, 1},
		"find where time >= 10":      {8, 5, 3, 1, 7},
		"find where time = 0":        {4},
		"find where time < 0":        nil,
		"find where time >= 1000000": {1},
		"find where time > 1000000":  nil,
		"find where run = 2":         {8, 5, 3, 1},
		"find where run != 2":        {3, 4, 9, 7},
		"find where run < 10":        {8, 5, 3, 1},
		"find where run <= 10":       {8, 3, 5, 4, 3, 1, 7},
		"find where run > 2":         {3, 4, 9, 7},
		"find where run >= 1000000":  {9},
		"find where kind = start":    {8},
		"find where kind = enter":    {3, 5},
		"find where kind = leave":    {3},
		"find where kind = set":      {4, 9},
		"find where kind = fault":    {7},
		"find where kind = end":      {1},
		"find where kind != set":     {8, 3, 5, 3, 1, 7},
		"find where step = a":        {3, 4, 3},
		"find where step != a":       {8, 5, 9, 1, 7},
		"find where step = w":        nil,
		"find where step = whom":     nil,
		"find where value = b":       {4},
		"find where value != b":      {8, 3, 5, 9, 3, 1, 7},
		"find where value = a":       nil,
		"find where step = b":        {5, 7},
		"find where seq = 2":         nil,
	} {
		wantList(t, text, asked(t, logged(), text), seqs(want...))
		count := strings.Replace(text, "find", "count", 1)
		wantList(t, count, asked(t, logged(), count), []impl.Answer{{N: int64(len(want))}})
	}
}

func TestAskSeveralConds(t *testing.T) {
	for text, want := range map[string][]int64{
		"find where run = 2 and time = 10":                                                             {8, 5},
		"find where run = 2 and time = 10 and step != b":                                               {8},
		"find where run = 2 and run = 10":                                                              nil,
		"find where run = 2 and run = 2":                                                               {8, 5, 3, 1},
		"find where time >= 9 and time <= 10":                                                          {8, 3, 5, 9, 7},
		"find where kind != start and kind != end and kind != set":                                     {3, 5, 3, 7},
		"find where step = a and value = b":                                                            {4},
		"find where seq > 1 and seq < 9 and time > 0 and time < 100 and run != 2 and kind != enter":    {7},
		"find where seq >= 1 and time >= 0 and run >= 1 and kind != end and step != who and value = b": {4},
	} {
		wantList(t, text, asked(t, logged(), text), seqs(want...))
	}
}

func TestAskInOrder(t *testing.T) {
	for text, want := range map[string][]int64{
		"find order seq":                    {1, 3, 3, 4, 5, 7, 8, 9},
		"find order seq desc":               {9, 8, 7, 5, 4, 3, 3, 1},
		"find order time":                   {4, 3, 9, 8, 5, 7, 3, 1},
		"find order time desc":              {1, 3, 8, 5, 7, 3, 9, 4},
		"find order run":                    {8, 5, 3, 1, 3, 4, 7, 9},
		"find order run desc":               {9, 3, 4, 7, 8, 5, 3, 1},
		"find where run = 2 order time":     {8, 5, 3, 1},
		"find where run = 2 order seq desc": {8, 5, 3, 1},
		"find order time limit 3":           {4, 3, 9},
		"find order time desc limit 4":      {1, 3, 8, 5},
		"find order run limit 1":            {8},
		"find order run desc limit 2":       {9, 3},
	} {
		wantList(t, text, asked(t, logged(), text), seqs(want...))
	}
}

// Events of one value stand as they stood, rising and falling, however many they are.
func TestAskOrderLeavesThoseOfOneValue(t *testing.T) {
	var l []impl.Event
	for i := range impl.MaxEvents {
		l = append(l, impl.Event{Seq: int64(1 + (i*37)%997), Time: int64(i % 3), Run: 7, Kind: impl.EvStart})
	}
	all := impl.Ask(l, impl.Query{Limit: -1})
	wantList(t, "one run", impl.Ask(l, impl.Query{Order: "run", Limit: -1}), all)
	wantList(t, "one run, falling", impl.Ask(l, impl.Query{Order: "run", Down: true, Limit: -1}), all)
	for _, down := range []bool{false, true} {
		var want []impl.Answer
		for _, time := range []int64{0, 1, 2} {
			if down {
				time = 2 - time
			}
			for _, e := range l {
				if e.Time == time {
					want = append(want, impl.Answer{Seq: e.Seq})
				}
			}
		}
		wantList(t, "three times", impl.Ask(l, impl.Query{Order: "time", Down: down, Limit: -1}), want)
	}
}

func TestAskWithALimit(t *testing.T) {
	all := seqs(8, 3, 5, 4, 9, 3, 1, 7)
	for limit := range int64(8) {
		wantList(t, "fewer", impl.Ask(logged(), impl.Query{Limit: limit}), all[:limit])
	}
	for _, limit := range []int64{-1, 8, 9, 100, impl.MaxEvents} {
		wantList(t, "all of them", impl.Ask(logged(), impl.Query{Limit: limit}), all)
	}
	wantNoList(t, "the first none", impl.Ask(logged(), impl.Query{Order: "seq", Limit: 0}))
	wantNoList(t, "the first of none", impl.Ask(nil, impl.Query{Limit: 5}))
	if got := len(impl.Ask(many(impl.MaxEvents), impl.Query{Limit: impl.MaxEvents - 1})); got != impl.MaxEvents-1 {
		t.Errorf("all but one: got %d", got)
	}
	if got := len(impl.Ask(many(impl.MaxEvents), impl.Query{Limit: impl.MaxEvents})); got != impl.MaxEvents {
		t.Errorf("just as many: got %d", got)
	}
}

func TestAskCountByEachField(t *testing.T) {
	for text, want := range map[string][]impl.Answer{
		"count":                           {{N: 8}},
		"count by seq":                    {{Label: "1", N: 1}, {Label: "3", N: 2}, {Label: "4", N: 1}, {Label: "5", N: 1}, {Label: "7", N: 1}, {Label: "8", N: 1}, {Label: "9", N: 1}},
		"count by time":                   {{Label: "0", N: 1}, {Label: "9", N: 2}, {Label: "10", N: 3}, {Label: "100", N: 1}, {Label: "1000000", N: 1}},
		"count by run":                    {{Label: "2", N: 4}, {Label: "10", N: 3}, {Label: "1000000", N: 1}},
		"count by kind":                   {{Label: "end", N: 1}, {Label: "enter", N: 2}, {Label: "fault", N: 1}, {Label: "leave", N: 1}, {Label: "set", N: 2}, {Label: "start", N: 1}},
		"count by step":                   {{N: 2}, {Label: "a", N: 3}, {Label: "b", N: 2}, {Label: "who", N: 1}},
		"count by value":                  {{N: 7}, {Label: "b", N: 1}},
		"count where run = 10 by step":    {{Label: "a", N: 2}, {Label: "b", N: 1}},
		"count where time < 0 by step":    nil,
		"count where time < 0 by time":    nil,
		"count where time < 0":            {{}},
		"count where time = 0 by time":    {{Label: "0", N: 1}},
		"count where kind = set by value": {{N: 1}, {Label: "b", N: 1}},
	} {
		wantList(t, text, asked(t, logged(), text), want)
	}
}

func TestAskCountByNumbersOfSeveralLengths(t *testing.T) {
	var l []impl.Event
	var want []impl.Answer
	for _, n := range []int64{1, 2, 9, 10, 11, 19, 20, 90, 99, 100, 101, 110, 999, 1000, 1001, 9999, 10000, 99999, 100000, 999999, 1000000} {
		l = append(l, impl.Event{Seq: n, Time: n, Run: n, Kind: impl.EvStart})
		want = append(want, impl.Answer{Label: decimal(n), N: 1})
	}
	back := slices.Clone(l)
	slices.Reverse(back)
	for _, field := range numberFields() {
		q := impl.Query{Count: true, By: field, Limit: -1}
		wantList(t, "rising, by "+field, impl.Ask(l, q), want)
		wantList(t, "falling, by "+field, impl.Ask(back, q), want)
	}
}

// decimal: a number in digits, told over again.
func decimal(n int64) string {
	if n < 10 {
		return string(rune('0' + n))
	}
	return decimal(n/10) + string(rune('0'+n%10))
}

func TestAskCountByTextsByteByByte(t *testing.T) {
	values := []string{"", "\x00", " ", "10", "7", "A", "Z", "a", "a\x00", "a b", "a_", "aa", "ab", "b", "\u00e9", "\xff", "\xff\xff"}
	var l []impl.Event
	var want []impl.Answer
	for i, value := range values {
		want = append(want, impl.Answer{Label: value, N: int64(1 + i%3)})
		for range 1 + i%3 {
			l = append(l, impl.Event{Seq: 1, Time: 1, Run: 1, Kind: impl.EvSet, Step: "x", Value: value})
		}
	}
	source := rand.New(rand.NewSource(81))
	for range 5 {
		source.Shuffle(len(l), func(i int, j int) { l[i], l[j] = l[j], l[i] })
		wantList(t, "by value", impl.Ask(l, impl.Query{Count: true, By: "value", Limit: -1}), want)
	}
	l, want = nil, nil
	for _, step := range []string{"a", "a0", "a1", "a10", "a2", "a_", "aa", "ab", "b", "b_", "z"} {
		l = append(l, impl.Event{Seq: 1, Time: 1, Run: 1, Kind: impl.EvEnter, Step: step})
		want = append(want, impl.Answer{Label: step, N: 1})
	}
	slices.Reverse(l)
	wantList(t, "by step", impl.Ask(l, impl.Query{Count: true, By: "step", Limit: -1}), want)
}

// A value that only begins with the word, or is written in other letters, is another one.
func TestAskWordsByteByByte(t *testing.T) {
	var l []impl.Event
	for i, value := range []string{"", "a", "ab", "A", " a", "a ", "a\x00", "abc", "b"} {
		l = append(l, impl.Event{Seq: int64(1 + i), Time: 1, Run: 1, Kind: impl.EvSet, Step: "x", Value: value})
	}
	wantList(t, "a", asked(t, l, "find where value = a"), seqs(2))
	wantList(t, "not a", asked(t, l, "find where value != a"), seqs(1, 3, 4, 5, 6, 7, 8, 9))
	wantList(t, "ab", asked(t, l, "find where value = ab"), seqs(3))
	wantNoList(t, "another field's", asked(t, l, "find where value = x"))
	wantNoList(t, "a kind's name", asked(t, l, "find where value = set"))
}

func TestAskNoEvents(t *testing.T) {
	for _, q := range eachEnd() {
		for _, l := range [][]impl.Event{nil, {}} {
			got := impl.Ask(l, q)
			if q.Count && q.By == "" {
				wantList(t, "count", got, []impl.Answer{{}})
				continue
			}
			wantNoList(t, "no events", got)
		}
	}
}

func TestAskByHowManyThereAre(t *testing.T) {
	count := impl.Query{Count: true, Limit: -1}
	for _, size := range []int{0, 1, impl.MaxEvents - 1, impl.MaxEvents} {
		l := many(size)
		wantList(t, "count", impl.Ask(l, count), []impl.Answer{{N: int64(size)}})
		wantList(t, "find", impl.Ask(l, impl.Query{Limit: -1}), answered(l, impl.Query{Limit: -1}))
	}
	for _, size := range []int{impl.MaxEvents + 1, impl.MaxList - 1, impl.MaxList, impl.MaxList + 1, 5000} {
		for _, q := range eachEnd() {
			wantNoList(t, "too many", impl.Ask(many(size), q))
		}
	}
}

func TestAskEventsThatAreNotRight(t *testing.T) {
	queries := []impl.Query{{Limit: -1}, {Count: true, Limit: -1}, {Count: true, By: "step", Limit: -1}, {Order: "time", Limit: 1}}
	for _, e := range allEdges() {
		for _, l := range [][]impl.Event{{e.event}, append(logged(), e.event), append([]impl.Event{e.event}, logged()...)} {
			for _, q := range queries {
				got := impl.Ask(l, q)
				if e.right {
					wantList(t, e.what, got, answered(l, q))
				} else {
					wantNoList(t, "with a wrong one: "+e.what, got)
				}
			}
		}
	}
	// Also one of which no Cond holds, so that it would not be told.
	wrong := append(logged(), impl.Event{Seq: 1, Time: 1, Run: 1, Kind: impl.EvEnter, Step: "A"})
	wantNoList(t, "a wrong one that is not asked for", asked(t, wrong, "find where run = 2"))
	wantNoList(t, "a wrong one that is not counted", asked(t, wrong, "count where run = 2"))
}

func TestAskQueriesThatAreNotRight(t *testing.T) {
	good := impl.Cond{Field: "seq", Op: ">=", N: 1}
	for _, q := range []impl.Query{
		{Count: true},
		{Count: true, Limit: 5},
		{Count: true, Limit: -2},
		{Count: true, By: "a", Limit: -1},
		{Count: true, Order: "seq", Limit: -1},
		{Count: true, By: "seq", Down: true, Limit: -1},
		{By: "seq", Limit: -1},
		{Order: "kind", Limit: -1},
		{Down: true, Limit: -1},
		{Limit: -2},
		{Limit: impl.MaxEvents + 1},
		{Conds: []impl.Cond{{}}, Limit: -1},
		{Conds: []impl.Cond{good, {Field: "seq", Op: "=="}}, Limit: -1},
		{Conds: []impl.Cond{good, {Field: "seq", Op: ">=", N: -1}}, Limit: -1},
		{Conds: []impl.Cond{good, {Field: "seq", Op: "<=", N: impl.MaxTime + 1}}, Limit: -1},
		{Conds: []impl.Cond{good, {Field: "step", Op: "=", Word: ""}}, Limit: -1},
		{Conds: []impl.Cond{good, {Field: "step", Op: "!=", Word: "A"}}, Limit: -1},
		{Conds: []impl.Cond{good, {Field: "kind", Op: "!=", Word: "a"}}, Limit: -1},
		{Conds: []impl.Cond{good, {Field: "value", Op: ">=", Word: "a"}}, Limit: -1},
		{Conds: []impl.Cond{good, {Field: "label", Op: "!=", Word: "a"}}, Limit: -1},
		{Conds: slices.Repeat([]impl.Cond{good}, impl.MaxConds+1), Limit: -1},
		{Count: true, Conds: slices.Repeat([]impl.Cond{good}, impl.MaxConds+1), Limit: -1},
	} {
		wantNoList(t, "a query that is not right", impl.Ask(logged(), q))
		wantNoList(t, "a query that is not right, of no events", impl.Ask(nil, q))
	}
	wantList(t, "a right one", impl.Ask(logged(), impl.Query{Conds: slices.Repeat([]impl.Cond{good}, impl.MaxConds), Limit: 2}), seqs(8, 3))
}

func TestAskAsTheDocumentSays(t *testing.T) {
	source := rand.New(rand.NewSource(82))
	for _, l := range eventLists(source) {
		for _, q := range eachEnd() {
			for size := range impl.MaxConds + 1 {
				q.Conds = someConds(source, size)
				wantList(t, written(q), impl.Ask(l, q), answered(l, q))
			}
		}
	}
}

func TestAskIsNewAndLeavesWhatItIsGiven(t *testing.T) {
	source := rand.New(rand.NewSource(83))
	for _, was := range [][]impl.Event{logged(), several(), someEvents(source, 60), append(logged(), impl.Event{})} {
		for _, q := range eachEnd() {
			q.Conds = someConds(source, source.Intn(2))
			conds := slices.Clone(q.Conds)
			given := roomy(was)
			for i, e := range given {
				given[i].Step, given[i].Value = strings.Clone(e.Step), strings.Clone(e.Value)
			}
			got := impl.Ask(given, q)
			want := slices.Clone(got)
			wantAsItWas(t, "Ask", given, was)
			wantList(t, "the Conds that Ask was given", q.Conds, conds)
			var labels []string
			for _, a := range got {
				labels = append(labels, a.Label)
			}
			wantApart(t, "Ask", labels, eventTexts(given))
			clear(given[:cap(given)])
			clear(q.Conds)
			wantList(t, "Ask, behind a change of what was given", got, want)
			clear(got[:cap(got)])
			q.Conds = conds
			wantList(t, "Ask, behind a change of what was told", impl.Ask(was, q), want)
		}
	}
}
