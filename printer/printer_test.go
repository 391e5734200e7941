package printer_test

import (
	"math"
	"math/rand/v2"
	"reflect"
	"regexp"
	"slices"
	"strings"
	"testing"

	"foyer/api"
	"foyer/lexer"
	"foyer/plan"
	"foyer/printer"
	"foyer/rule"
)

func TestChapterExamples(t *testing.T) {
	row := api.Row{Name: "a", X: 10, Y: 20, From: 1, To: 4, Step: 2, Marks: []api.Mark{{Kind: api.MarkGap, Seat: 3}}}
	wantHall(t, hallOfRow(row), "hall h stage 5 0 {\n\tlevel l height 2 {\n\t\tblock b {\n\t\t\trow a at 10 20 seats 1 to 4 step 2 gap 3;\n\t\t}\n\t}\n}\n")
	when := [][]api.Test{{{Attr: "time", Op: api.OpAtLeast, N: 5}}, {{Attr: "age", Op: api.OpLess, N: 18}}}
	wantRules(t, "allow x limit 2 when time >= 5 or age < 18;\n", api.Item{Kind: api.RuleAllow, Name: "x", N: 2, When: when})
	wantRules(t, "price p 1000 fee 1/10;\n", api.Item{Kind: api.RulePrice, Name: "p", N: 1000, R: api.Ratio{Num: 1, Den: 10}, S: api.Ratio{Num: 0, Den: 1}})
}

// fullHall has each thing that a hall can have, and fullHallText is its text.
func fullHall() api.Hall {
	return api.Hall{Name: "opera", Stage: api.Point{X: 500, Y: 10}, Levels: []api.Level{
		{
			Name:   "stalls",
			Height: 1,
			Blocks: []api.Block{
				{Name: "left", At: 77, Rows: []api.Row{
					{Name: "a", X: 11, Y: 12, From: 13, To: 14, Step: 15, At: 99, Marks: []api.Mark{
						{Kind: api.MarkGap, Seat: 3}, {Kind: api.MarkWheel, Seat: 4}, {Kind: api.MarkBeside, Seat: 5, With: 6}, {Kind: api.MarkHidden, Seat: 7}, {Kind: api.MarkGap, Seat: 2},
					}},
					{Name: "b", X: 21, Y: 22, From: 23, To: 24, Step: 25},
				}},
				{Name: "right"},
			},
			Areas:   []api.Area{{Name: "pit", Box: api.Box{X: 31, Y: 32, X2: 33, Y2: 34}, Holds: 35}, {Name: "moat", Box: api.Box{X: 36, Y: 37, X2: 38, Y2: 39}, Holds: 30}},
			Aisles:  []api.Box{{X: 41, Y: 42, X2: 43, Y2: 44}, {X: 45, Y: 46, X2: 47, Y2: 48}},
			Pillars: []api.Box{{X: 51, Y: 52, X2: 53, Y2: 54}, {X: 55, Y: 56, X2: 57, Y2: 58}},
			Doors:   []api.Point{{X: 61, Y: 62}, {X: 63, Y: 64}},
			At:      55,
		},
		{Name: "balcony", Height: 70},
		{Name: "loft", Height: 80, Blocks: []api.Block{{Name: "only", Rows: []api.Row{{Name: "z", Marks: []api.Mark{{Kind: api.MarkBeside}}}}}}},
	}}
}

const fullHallText = `hall opera stage 500 10 {
	level stalls height 1 {
		block left {
			row a at 11 12 seats 13 to 14 step 15 gap 3 wheel 4 beside 5 of 6 hidden 7 gap 2;
			row b at 21 22 seats 23 to 24 step 25;
		}
		block right {
		}
		area pit 31 32 33 34 holds 35;
		area moat 36 37 38 39 holds 30;
		aisle 41 42 43 44;
		aisle 45 46 47 48;
		pillar 51 52 53 54;
		pillar 55 56 57 58;
		door 61 62;
		door 63 64;
	}
	level balcony height 70 {
	}
	level loft height 80 {
		block only {
			row z at 0 0 seats 0 to 0 step 0 beside 0 of 0;
		}
	}
}
`

// P8.1, H1: every number and name is where it belongs, and all is in its order.
func TestFullHall(t *testing.T) {
	wantHall(t, fullHall(), fullHallText)
}

// fullRules have each part that rules can have, and fullRulesText is their text.
func fullRules() api.Rules {
	ratio := func(num, den int) api.Ratio { return api.Ratio{Num: num, Den: den} }
	return api.Rules{Items: []api.Item{
		{Kind: api.RuleAllow, Name: "a1", At: 44},
		{Kind: api.RuleAllow, Name: "a2", N: 4},
		{Kind: api.RuleDeny, Name: "d1"},
		{Kind: api.RulePrice, Name: "p1", N: 11, R: ratio(0, 1), S: ratio(0, 1)},
		{Kind: api.RulePrice, Name: "p2", N: 21, R: ratio(22, 23), S: ratio(0, 1)},
		{Kind: api.RulePrice, Name: "p3", N: 31, R: ratio(0, 1), S: ratio(32, 33)},
		{Kind: api.RulePrice, Name: "p4", N: 0, R: ratio(42, 43), S: ratio(44, 45)},
		{Kind: api.RuleResale, Name: "r1", R: ratio(51, 52), S: ratio(0, 1)},
		{Kind: api.RuleRefund, Name: "f1", R: ratio(0, 1)},
		{Kind: api.RuleTogether, Name: "t1"},
		{Kind: api.RuleSingle, Name: "s1", When: [][]api.Test{
			{{Attr: "k", Op: api.OpEqual, N: 71, At: 66}, {Attr: "l", Op: api.OpUnlike, N: 0}},
			{{Attr: "m", Op: api.OpLess, N: 73}},
			{{Attr: "o", Op: api.OpAtMost, Name: "n"}, {Attr: "q", Op: api.OpMore, Name: "n.n2"}, {Attr: "u", Op: api.OpAtLeast, N: 76}},
		}},
		{Kind: api.RulePrice, Name: "p5", N: 81, R: ratio(0, 0), S: ratio(1, 1), When: [][]api.Test{{{Attr: "v", Op: api.OpMore, N: 84}}}},
		{Kind: api.RuleResale, Name: "r2", R: ratio(0, 0), S: ratio(2, 0), When: [][]api.Test{{{Attr: "w", Op: api.OpEqual, Name: "x"}}, {{Attr: "y", Op: api.OpEqual, Name: "z"}}}},
		{Kind: api.RuleDeny, Name: "d1"},
	}}
}

const fullRulesText = `allow a1;
allow a2 limit 4;
deny d1;
price p1 11;
price p2 21 fee 22/23;
price p3 31 tax 32/33;
price p4 0 fee 42/43 tax 44/45;
resale r1 cap 51/52 share 0/1;
refund f1 0/1;
together t1;
single s1 when k = 71 and l != 0 or m < 73 or o <= n and q > n.n2 and u >= 76;
price p5 81 fee 0/0 tax 1/1 when v > 84;
resale r2 cap 0/0 share 2/0 when w = x or y = z;
deny d1;
`

// P8.1, H2: every number, ratio, name and test is where it belongs.
func TestFullRules(t *testing.T) {
	wantRules(t, fullRulesText, fullRules().Items...)
}

// P8.1, H1, H2: where there is nothing, there are no lines; nil and empty slices are the same.
func TestNothing(t *testing.T) {
	wantRules(t, "")
	wantRules(t, "", []api.Item{}...)
	wantRules(t, "deny d;\n", api.Item{Kind: api.RuleDeny, Name: "d", When: [][]api.Test{}})
	hall := api.Hall{Name: "h", Stage: api.Point{X: 5}}
	wantHall(t, hall, "hall h stage 5 0 {\n}\n")
	hall.Levels = []api.Level{}
	wantHall(t, hall, "hall h stage 5 0 {\n}\n")
	hall.Levels = []api.Level{{Name: "l", Blocks: []api.Block{}, Areas: []api.Area{}, Aisles: []api.Box{}, Pillars: []api.Box{}, Doors: []api.Point{}}}
	wantHall(t, hall, "hall h stage 5 0 {\n\tlevel l height 0 {\n\t}\n}\n")
	hall.Levels[0].Blocks = []api.Block{{Name: "b", Rows: []api.Row{}}}
	wantHall(t, hall, "hall h stage 5 0 {\n\tlevel l height 0 {\n\t\tblock b {\n\t\t}\n\t}\n}\n")
	wantHall(t, hallOfRow(api.Row{Name: "r", Marks: []api.Mark{}}), "hall h stage 5 0 {\n\tlevel l height 2 {\n\t\tblock b {\n\t\t\trow r at 0 0 seats 0 to 0 step 0;\n\t\t}\n\t}\n}\n")
	wantRefusedHall(t, api.Hall{})
	wantRefusedRules(t, api.Rules{Items: make([]api.Item, 1)})
}

// badNames are no names; among them are texts of several tokens, and of tokens with gaps.
func badNames() []string {
	names := []string{"", " ", "_", "_a", "7", "7a", "a b", " a", "a ", "a\n", "\ta", "a\t", "\na", "a#", "#a", "a#b\n", "a;", ";", "a-b", "-", ".", ".a", "a.", "a..b", "a.b.c", "a .b", "a. b", "a.7", "7.a", "a.b ", "a,b", "a/b", "{", "a{", "=", ">=", "a!", "\u00e9", "a\u00e9", "a\x00", "\xff", "a\xff", "\uff21", "[", "@", "`", "a[", "a@", "a`", "a:", "\u0661a", "a\u0661"}
	for _, n := range []int{25, 26, 48, 200, 20000, 20001, 1000000} {
		names = append(names, strings.Repeat("n", n))
	}
	long := "n" + strings.Repeat("_", 23)
	return append(names, long+"_.a", "a."+long+"_")
}

func goodNames() []string {
	long := "n" + strings.Repeat("_", 23)
	return append([]string{"a", "z", "A", "Z", "a0", "a9", "a_", "aZ", "Az", "b2C_", long, "z" + strings.Repeat("9", 23)}, keyWords...)
}

var (
	badNumbers  = []int{-1, -2, -10000000000, 10000000000, 10000000001, 1 << 34, 1 << 62, math.MinInt, math.MinInt + 1, math.MaxInt}
	goodNumbers = []int{0, 1, 7, 10, 1000001, 1 << 31, 1 << 32, 1<<32 + 1, 9999999998, 9999999999}
)

// P8.1, P8.2, P8.6, P8.7, H1: every name and number of a hall can be any name or number, and nothing else; its offset can be any.
func TestFieldsOfHalls(t *testing.T) {
	hall := fullHall()
	for _, leaf := range leavesOf(&hall) {
		before := leaf.value.Interface()
		switch leaf.field {
		case "Name":
			tryHalls(t, leaf, &hall, goodNames(), append(badNames(), "a.b"))
		case "At":
			tryHalls(t, leaf, &hall, append(slices.Clone(goodNumbers), badNumbers...), nil)
			if text, _ := printer.Hall(hall); text != fullHallText {
				t.Errorf("another offset makes the text %q", text)
			}
		case "Kind", "With":
		default:
			tryHalls(t, leaf, &hall, goodNumbers, badNumbers)
		}
		leaf.value.Set(reflect.ValueOf(before))
	}
	wantHall(t, hall, fullHallText)
}

func tryHalls[T any](t *testing.T, leaf leaf, hall *api.Hall, good, bad []T) {
	t.Helper()
	for _, value := range good {
		leaf.value.Set(reflect.ValueOf(value))
		wantHall(t, *hall, textOfHall(*hall))
	}
	for _, value := range bad {
		leaf.value.Set(reflect.ValueOf(value))
		wantRefusedHall(t, *hall)
	}
}

// P8.1, P8.7, H1: the kinds of marks, and which of them have another seat.
func TestMarks(t *testing.T) {
	for _, kind := range []int{math.MinInt, -4, -1, 0, 1, 2, 3, 4, 5, 6, 256 + api.MarkGap, 1<<32 + api.MarkGap, math.MaxInt} {
		for _, with := range append(slices.Clone(goodNumbers), badNumbers...) {
			for _, marks := range [][]api.Mark{{{Kind: kind, Seat: 8, With: with}}, {{Kind: api.MarkGap, Seat: 9}, {Kind: kind, Seat: 8, With: with}, {Kind: api.MarkBeside, Seat: 1, With: 2}}} {
				hall := hallOfRow(api.Row{Name: "r", Marks: marks})
				good := markWords[kind] != "" && with == 0
				if kind == api.MarkBeside {
					good = slices.Contains(goodNumbers, with)
				}
				if good {
					wantHall(t, hall, textOfHall(hall))
				} else {
					wantRefusedHall(t, hall)
				}
			}
		}
	}
}

// P8.1, P8.3, P8.6, P8.7, H2: every name and number of rules can be any name or number, and nothing else; its offset can be any.
func TestFieldsOfRules(t *testing.T) {
	rules := fullRules()
	for i := range rules.Items {
		item := &rules.Items[i]
		tryRules(t, reflect.ValueOf(&item.Name), &rules, goodNames(), append(badNames(), "a.b"))
		own := fieldsOf[item.Kind]
		for field, numbers := range map[string][]*int{"N": {&item.N}, "R": {&item.R.Num, &item.R.Den}, "S": {&item.S.Num, &item.S.Den}} {
			for _, number := range numbers {
				if slices.Contains(own, field) {
					tryRules(t, reflect.ValueOf(number), &rules, goodNumbers, badNumbers)
				} else {
					tryRules(t, reflect.ValueOf(number), &rules, []int{0}, append(slices.Clone(goodNumbers[1:]), badNumbers...))
				}
			}
		}
		for _, tests := range item.When {
			for j := range tests {
				tryTest(t, &rules, &tests[j])
			}
		}
	}
	for _, leaf := range leavesOf(&rules) {
		if leaf.field == "At" {
			tryRules(t, leaf.value.Addr(), &rules, append(slices.Clone(goodNumbers), badNumbers...), nil)
		}
	}
	wantRules(t, fullRulesText, rules.Items...)
}

func tryTest(t *testing.T, rules *api.Rules, test *api.Test) {
	t.Helper()
	before := *test
	long := "n" + strings.Repeat("_", 23)
	tryRules(t, reflect.ValueOf(&test.Attr), rules, goodNames(), append(badNames(), "a.b"))
	test.Name = ""
	tryRules(t, reflect.ValueOf(&test.N), rules, goodNumbers, badNumbers)
	test.N = 0
	tryRules(t, reflect.ValueOf(&test.Name), rules, append(goodNames(), "", "a.b", "or.and", long+"."+long, "Z_.z9"), badNames()[1:])
	for _, name := range []string{"a", "a.b", "_", "a.b.c"} {
		test.Name = name
		tryRules(t, reflect.ValueOf(&test.N), rules, nil, append(slices.Clone(goodNumbers[1:]), badNumbers...))
	}
	*test = before
}

// tryRules puts values where a pointer points to, and puts back what was there.
func tryRules[T any](t *testing.T, pointer reflect.Value, rules *api.Rules, good, bad []T) {
	t.Helper()
	place := pointer.Elem()
	before := place.Interface()
	for _, value := range good {
		place.Set(reflect.ValueOf(value))
		wantRules(t, textOfRules(*rules), rules.Items...)
	}
	for _, value := range bad {
		place.Set(reflect.ValueOf(value))
		wantRefusedRules(t, *rules)
	}
	place.Set(reflect.ValueOf(before))
}

// P8.1, P8.7, H2: the kinds of rules, and of operations.
func TestKinds(t *testing.T) {
	for _, kind := range []int{math.MinInt, -7, -1, 0, 1, 2, 3, 4, 5, 6, 7, 8, 9, 256 + api.RuleDeny, 1<<32 + api.RuleDeny, math.MaxInt} {
		rules := api.Rules{Items: []api.Item{{Kind: api.RuleDeny, Name: "e"}, {Kind: kind, Name: "d"}, {Kind: api.RuleDeny, Name: "f"}}}
		if ruleWords[kind] != "" {
			wantRules(t, textOfRules(rules), rules.Items...)
		} else {
			wantRefusedRules(t, rules)
		}
		for _, tests := range [][]api.Test{{{Attr: "x", Op: kind, N: 1}}, {{Attr: "x", Op: kind, Name: "a.b"}}, {{Attr: "y", Op: api.OpEqual, N: 1}, {Attr: "x", Op: kind}}} {
			rules := api.Rules{Items: []api.Item{{Kind: api.RuleAllow, Name: "a", When: [][]api.Test{{{Attr: "z", Op: api.OpLess}}, tests}}}}
			if opWords[kind] != "" {
				wantRules(t, textOfRules(rules), rules.Items...)
			} else {
				wantRefusedRules(t, rules)
			}
		}
	}
}

// P8.1, H2: a limit of 0, and a fee or tax of 0/1, are not written; all others are.
func TestWhatIsNotWritten(t *testing.T) {
	none := api.Ratio{Num: 0, Den: 1}
	wantRules(t, "allow a;\n", api.Item{Kind: api.RuleAllow, Name: "a", N: 0})
	wantRules(t, "allow a limit 1;\n", api.Item{Kind: api.RuleAllow, Name: "a", N: 1})
	wantRules(t, "price p 0;\n", api.Item{Kind: api.RulePrice, Name: "p", R: none, S: none})
	wantRules(t, "price p 0 fee 0/0 tax 0/0;\n", api.Item{Kind: api.RulePrice, Name: "p"})
	for ratio, word := range map[api.Ratio]string{{Num: 0, Den: 2}: "0/2", {Num: 1, Den: 1}: "1/1", {Num: 1, Den: 0}: "1/0", {Num: 0, Den: 0}: "0/0", {Num: 2, Den: 4}: "2/4"} {
		wantRules(t, "price p 5 fee "+word+";\n", api.Item{Kind: api.RulePrice, Name: "p", N: 5, R: ratio, S: none})
		wantRules(t, "price p 5 tax "+word+";\n", api.Item{Kind: api.RulePrice, Name: "p", N: 5, R: none, S: ratio})
		wantRules(t, "price p 5 fee "+word+" tax "+word+";\n", api.Item{Kind: api.RulePrice, Name: "p", N: 5, R: ratio, S: ratio})
	}
	wantRules(t, "resale r cap 0/1 share 0/1;\n", api.Item{Kind: api.RuleResale, Name: "r", R: none, S: none})
	wantRules(t, "refund f 0/1;\n", api.Item{Kind: api.RuleRefund, Name: "f", R: none})
	wantRefusedRules(t, api.Rules{Items: []api.Item{{Kind: api.RuleDeny, Name: "d", R: none}}})
	wantRefusedRules(t, api.Rules{Items: []api.Item{{Kind: api.RuleAllow, Name: "a", S: none}}})
	wantRefusedRules(t, api.Rules{Items: []api.Item{{Kind: api.RuleRefund, Name: "f", R: none, S: none}}})
}

// P8.1, H2: at most 200 rules, 12 alternatives of a rule, and 12 tests of an alternative, of which each has one at least.
func TestManyItemsAndTests(t *testing.T) {
	for _, n := range []int{1, 2, 199, 200, 201, 202, 300, 10000} {
		rules := api.Rules{Items: slices.Repeat([]api.Item{{Kind: api.RuleDeny, Name: "d"}}, n)}
		if n <= 200 {
			wantRules(t, strings.Repeat("deny d;\n", n), rules.Items...)
		} else {
			wantRefusedRules(t, rules)
		}
	}
	test := []api.Test{{Attr: "x", Op: api.OpMore, N: 1}}
	for _, n := range []int{0, 1, 2, 11, 12, 13, 14, 5000} {
		many := [][]api.Test{slices.Repeat(test, n)}
		for _, when := range [][][]api.Test{many, {test, many[0]}, {many[0], test}, slices.Repeat([][]api.Test{test}, n)} {
			items := []api.Item{{Kind: api.RuleDeny, Name: "d", When: when}, {Kind: api.RuleAllow, Name: "a"}}
			if slices.ContainsFunc(when, func(tests []api.Test) bool { return len(tests) == 0 || len(tests) > 12 }) || len(when) > 12 {
				wantRefusedRules(t, api.Rules{Items: items})
			} else {
				wantRules(t, textOfRules(api.Rules{Items: items}), items...)
			}
		}
	}
	full := slices.Repeat([][]api.Test{slices.Repeat(test, 12)}, 12)
	item := api.Item{Kind: api.RuleSingle, Name: "s", When: full}
	wantRules(t, "single s when "+strings.Repeat("x > 1 and ", 11)+"x > 1"+strings.Repeat(" or "+strings.Repeat("x > 1 and ", 11)+"x > 1", 11)+";\n", item)
}

// P8.1, H1, H2: at most 20000 bytes.
func TestManyBytes(t *testing.T) {
	for n := 19960; n <= 20040; n++ {
		hall, rules := hallOfBytes(t, n), rulesOfBytes(t, n)
		if n <= api.MaxSource {
			wantHall(t, hall, textOfHall(hall))
			wantRules(t, textOfRules(rules), rules.Items...)
		} else {
			wantLimitOfHall(t, hall)
			wantLimitOfRules(t, rules)
		}
	}
}

// P8.1, H1, H2: at most 5000 tokens.
func TestManyTokens(t *testing.T) {
	for n := 4980; n <= 5020; n++ {
		hall, rules := hallOfTokens(t, n), rulesOfTokens(t, n)
		if n <= api.MaxTokens {
			wantHall(t, hall, textOfHall(hall))
			wantRules(t, textOfRules(rules), rules.Items...)
		} else {
			wantLimitOfHall(t, hall)
			wantLimitOfRules(t, rules)
		}
	}
	// A word can have several tokens, and a seat beside another one has four.
	marks := slices.Repeat([]api.Mark{{Kind: api.MarkBeside, Seat: 1, With: 2}}, 1242)
	wantHall(t, hallOfRow(api.Row{Name: "r", Marks: marks}), textOfHall(hallOfRow(api.Row{Name: "r", Marks: marks})))
	wantLimitOfHall(t, hallOfRow(api.Row{Name: "r", Marks: append(marks, marks[0])}))
	pointed := api.Item{Kind: api.RuleRefund, Name: "f", When: slices.Repeat([][]api.Test{slices.Repeat([]api.Test{{Attr: "x", Op: api.OpEqual, Name: "a.b"}}, 12)}, 11)}
	items := slices.Repeat([]api.Item{pointed}, 6)
	wantRules(t, textOfRules(api.Rules{Items: items}), items...)
	wantLimitOfRules(t, api.Rules{Items: append(items, pointed)})
}

// P1, H1, H2: what cannot be written is refused even if it would be too long, wherever that is.
func TestRefusalBeforeLimit(t *testing.T) {
	hall := hallOfBytes(t, 30000)
	wantLimitOfHall(t, hall)
	last := len(hall.Levels[0].Doors) - 1
	for _, i := range []int{0, last / 2, last} {
		hall.Levels[0].Doors[i].Y = -1
		wantRefusedHall(t, hall)
		hall.Levels[0].Doors[i].Y = 0
	}
	hall.Levels = append(hall.Levels, api.Level{Name: "7"})
	wantRefusedHall(t, hall)
	hall = hallOfTokens(t, 5001)
	hall.Levels[0].Doors[len(hall.Levels[0].Doors)-1].X = 10000000000
	wantRefusedHall(t, hall)
	for _, rules := range []api.Rules{rulesOfBytes(t, 30000), rulesOfTokens(t, 5001)} {
		wantLimitOfRules(t, rules)
		for _, i := range []int{0, len(rules.Items) / 2, len(rules.Items) - 1} {
			other := copied(rules)
			other.Items[i].N = 1
			wantRefusedRules(t, other)
			other = copied(rules)
			other.Items[i].When = append(other.Items[i].When, nil)
			wantRefusedRules(t, other)
		}
		for i := len(rules.Items); i < 201; i++ {
			rules.Items = append(rules.Items, api.Item{Kind: api.RuleDeny, Name: "d"})
		}
		wantRefusedRules(t, rules)
	}
}

// P1: things that are far beyond the limits have their errors, too.
func TestFarBeyondLimits(t *testing.T) {
	const many = 200000
	mark := []api.Mark{{Kind: api.MarkWheel, Seat: 9999999999}}
	row := api.Row{Name: "r", Marks: slices.Repeat(mark, many)}
	wantLimitOfHall(t, hallOfRow(row))
	row.Marks[many-1].With = 1
	wantRefusedHall(t, hallOfRow(row))
	for _, level := range []api.Level{
		{Name: "l", Blocks: slices.Repeat([]api.Block{{Name: "b"}}, many)},
		{Name: "l", Areas: slices.Repeat([]api.Area{{Name: "a"}}, many)},
		{Name: "l", Aisles: make([]api.Box, many)},
		{Name: "l", Pillars: make([]api.Box, many)},
		{Name: "l", Doors: make([]api.Point, many)},
	} {
		hall := api.Hall{Name: "h", Levels: []api.Level{level}}
		wantLimitOfHall(t, hall)
		hall.Levels = append(hall.Levels, api.Level{Name: "l", Height: -1})
		wantRefusedHall(t, hall)
	}
	item := api.Item{Kind: api.RuleDeny, Name: "d", When: make([][]api.Test, many)}
	wantRefusedRules(t, api.Rules{Items: []api.Item{item}})
	item.When = [][]api.Test{make([]api.Test, many)}
	wantRefusedRules(t, api.Rules{Items: []api.Item{item}})
	wantRefusedRules(t, api.Rules{Items: make([]api.Item, many)})
}

// P8.1, P8.2, P8.3, P8.5: random halls and rules.
func TestRandom(t *testing.T) {
	random := rand.New(rand.NewPCG(8, 1))
	for range 1000 {
		hall, rules := randomHall(random), randomRules(random)
		wantHall(t, hall, textOfHall(hall))
		wantRules(t, textOfRules(rules), rules.Items...)
	}
}

// P8.4: the texts of halls.
func TestHallsAgain(t *testing.T) {
	random := rand.New(rand.NewPCG(8, 2))
	for range 500 {
		text := loosened(t, shuffled(textOfHall(randomHall(random)), random), random)
		read, err, at := plan.Parse(text)
		if err != api.OK {
			t.Fatalf("%q: %v, %d", text, err, at)
		}
		canonical, _ := printer.Hall(read)
		again, err, at := plan.Parse(canonical)
		if err != api.OK {
			t.Fatalf("%q of %q: %v, %d", canonical, text, err, at)
		}
		wantHall(t, again, canonical)
		wantHall(t, read, canonical)
	}
	read, _, _ := plan.Parse("hall h stage 05 000{level l height 0000000002{door 1 2;pillar 1 2 3 4;#\nblock b{row r at 1 2 seats 3 to 4 step 5 gap 6;}aisle 5 6 7 8;door 3 4;area a 1 2 3 4 holds 5;block c{}}}")
	wantHall(t, read, "hall h stage 5 0 {\n\tlevel l height 2 {\n\t\tblock b {\n\t\t\trow r at 1 2 seats 3 to 4 step 5 gap 6;\n\t\t}\n\t\tblock c {\n\t\t}\n\t\tarea a 1 2 3 4 holds 5;\n\t\taisle 5 6 7 8;\n\t\tpillar 1 2 3 4;\n\t\tdoor 1 2;\n\t\tdoor 3 4;\n\t}\n}\n")
}

// P8.4: the texts of rules.
func TestRulesAgain(t *testing.T) {
	random := rand.New(rand.NewPCG(8, 3))
	for range 500 {
		text := loosened(t, withZeros(textOfRules(randomRules(random))), random)
		read, err, at := rule.Parse(text)
		if err != api.OK {
			t.Fatalf("%q: %v, %d", text, err, at)
		}
		canonical, _ := printer.Rules(read)
		again, err, at := rule.Parse(canonical)
		if err != api.OK {
			t.Fatalf("%q of %q: %v, %d", canonical, text, err, at)
		}
		wantRules(t, canonical, again.Items...)
		wantRules(t, canonical, read.Items...)
	}
	read, _, _ := rule.Parse("allow a limit 0;price p 007 fee 0/1 tax 0/1; price q 1 fee 00/01 tax 0/2;\ndeny d when x=a . b and y>=03#\nor z!=c;")
	wantRules(t, "allow a;\nprice p 7;\nprice q 1 tax 0/2;\ndeny d when x = a.b and y >= 3 or z != c;\n", read.Items...)
}

// P8.6: other halls have other texts, and halls that are equal but for their offsets the same one.
func TestEqualHalls(t *testing.T) {
	random := rand.New(rand.NewPCG(8, 4))
	found := map[bool]int{}
	for range 3000 {
		hall := randomHall(random)
		other := copied(hall)
		change(&other, random)
		changeOrder(&other, random)
		text, _ := printer.Hall(hall)
		otherText, err := printer.Hall(other)
		equal := reflect.DeepEqual(plain(hall), plain(other))
		if err != api.OK || equal != (text == otherText) {
			t.Fatalf("%q and %q (%v): %v, %v", text, otherText, err, hall, other)
		}
		found[equal]++
	}
	if found[true] < 100 || found[false] < 100 {
		t.Errorf("%d equal pairs, and %d others", found[true], found[false])
	}
}

// changeOrder exchanges some things of a hall, or makes others of them.
func changeOrder(hall *api.Hall, random *rand.Rand) {
	if len(hall.Levels) == 0 {
		return
	}
	level := &hall.Levels[random.IntN(len(hall.Levels))]
	switch random.IntN(6) {
	case 0:
		slices.Reverse(hall.Levels)
	case 1:
		slices.Reverse(level.Blocks)
		slices.Reverse(level.Areas)
	case 2:
		slices.Reverse(level.Doors)
	case 3:
		level.Aisles, level.Pillars = level.Pillars, level.Aisles
	case 4:
		for _, block := range level.Blocks {
			slices.Reverse(block.Rows)
			for _, row := range block.Rows {
				slices.Reverse(row.Marks)
			}
		}
	}
}

// change gives a random number or name of a hall or of rules another value; they can still be written.
func change(pointer any, random *rand.Rand) {
	leaves := leavesOf(pointer)
	if len(leaves) == 0 {
		return
	}
	switch leaf := leaves[random.IntN(len(leaves))]; leaf.field {
	case "Name":
		if leaf.value.String() != "" {
			leaf.value.SetString(randomName(random))
		}
	case "Attr":
		leaf.value.SetString(randomName(random))
	case "Op":
		leaf.value.SetInt(int64(api.OpEqual + random.IntN(len(opWords))))
	case "Kind", "With", "N", "Num", "Den":
		if leaf.value.Int() != 0 && leaf.field != "Kind" {
			leaf.value.SetInt(int64(1 + random.IntN(3)))
		}
	default:
		leaf.value.SetInt(int64(randomNumber(random)))
	}
}

// P8.6: other rules have other texts, and rules that are equal but for their offsets the same one.
func TestEqualRules(t *testing.T) {
	random := rand.New(rand.NewPCG(8, 5))
	found := map[bool]int{}
	for range 3000 {
		rules := randomRules(random)
		other := copied(rules)
		change(&other, random)
		if random.IntN(4) == 0 {
			slices.Reverse(other.Items)
		}
		text, _ := printer.Rules(rules)
		otherText, err := printer.Rules(other)
		equal := reflect.DeepEqual(plain(rules), plain(other))
		if err != api.OK || equal != (text == otherText) {
			t.Fatalf("%q and %q (%v): %v, %v", text, otherText, err, rules, other)
		}
		found[equal]++
	}
	if found[true] < 100 || found[false] < 100 {
		t.Errorf("%d equal pairs, and %d others", found[true], found[false])
	}
}

// P8.6: how tests are joined makes a difference.
func TestEqualConditions(t *testing.T) {
	test := func(attr string) api.Test { return api.Test{Attr: attr, Op: api.OpEqual, N: 1} }
	texts := map[string]bool{}
	conditions := [][][]api.Test{nil, {{test("a")}}, {{test("b")}}, {{test("a"), test("b")}}, {{test("b"), test("a")}}, {{test("a")}, {test("b")}}, {{test("b")}, {test("a")}}, {{test("a"), test("b")}, {test("c")}}, {{test("a")}, {test("b"), test("c")}}, {{test("a"), test("a")}}, {{test("a")}, {test("a")}}}
	for _, when := range conditions {
		text, err := printer.Rules(api.Rules{Items: []api.Item{{Kind: api.RuleDeny, Name: "d", When: when}}})
		if err != api.OK {
			t.Errorf("%v: %v", when, err)
		}
		texts[text] = true
	}
	if len(texts) != len(conditions) {
		t.Errorf("%d conditions have %d texts", len(conditions), len(texts))
	}
}

// P8.7: one name or number of random halls and rules that is not as required.
func TestRandomRefusals(t *testing.T) {
	random := rand.New(rand.NewPCG(8, 6))
	names := badNames()
	spoil := func(leaves []leaf) bool {
		leaf := leaves[random.IntN(len(leaves))]
		switch {
		case leaf.field == "At":
			return false
		case leaf.value.Kind() == reflect.String:
			name := names[random.IntN(len(names))]
			leaf.value.SetString(name)
			return leaf.field != "Name" || name != ""
		}
		leaf.value.SetInt(int64(badNumbers[random.IntN(len(badNumbers))]))
		return true
	}
	for range 2000 {
		hall, rules := randomHall(random), randomRules(random)
		if spoil(leavesOf(&hall)) {
			wantRefusedHall(t, hall)
		}
		if len(rules.Items) > 0 && spoil(leavesOf(&rules)) {
			wantRefusedRules(t, rules)
		}
	}
}

// P3: equal arguments have equal results, and are not modified.
func TestIndependence(t *testing.T) {
	random := rand.New(rand.NewPCG(8, 7))
	for range 200 {
		hall, rules := randomHall(random), randomRules(random)
		sameHall, sameRules := copied(hall), copied(rules)
		hallText, _ := printer.Hall(hall)
		rulesText, _ := printer.Rules(rules)
		if !reflect.DeepEqual(copied(hall), sameHall) || !reflect.DeepEqual(copied(rules), sameRules) {
			t.Fatalf("%v or %v is modified", sameHall, sameRules)
		}
		wantHall(t, sameHall, hallText)
		wantRules(t, rulesText, sameRules.Items...)
	}
}

// wantHall checks the text of a hall, of which plan.Parse must make this hall, and its lines.
func wantHall(t *testing.T, hall api.Hall, want string) {
	t.Helper()
	text, err := printer.Hall(hall)
	if text != want || err != api.OK {
		t.Errorf("%.2000q, %v, not %.2000q", text, err, want)
		return
	}
	read, err, at := plan.Parse(text)
	if err != api.OK || !reflect.DeepEqual(plain(read), plain(hall)) {
		t.Errorf("%.2000q is read as %v, %v, %d", text, read, err, at)
	}
	wantLines(t, text, "{", "}", ";")
}

// wantRules checks the text of rules, of which rule.Parse must make these rules, and its lines.
func wantRules(t *testing.T, want string, items ...api.Item) {
	t.Helper()
	text, err := printer.Rules(api.Rules{Items: items})
	if text != want || err != api.OK {
		t.Errorf("%.2000q, %v, not %.2000q", text, err, want)
		return
	}
	read, err, at := rule.Parse(text)
	if err != api.OK || !reflect.DeepEqual(plain(read), plain(api.Rules{Items: items})) {
		t.Errorf("%.2000q is read as %v, %v, %d", text, read, err, at)
	}
	if lines := wantLines(t, text, ";"); lines != len(items) {
		t.Errorf("%.2000q has %d lines", text, lines)
	}
}

// wantLines checks the lines of a text, each of which has one of some symbols at its end, and returns how many there are (P8.5).
func wantLines(t *testing.T, text string, ends ...string) int {
	t.Helper()
	if text == "" {
		return 0
	}
	rest, ended := strings.CutSuffix(text, "\n")
	lines, open := strings.Split(rest, "\n"), 0
	for _, line := range lines {
		words := strings.TrimLeft(line, "\t")
		tabs := len(line) - len(words)
		if words == "}" {
			open--
		}
		if !ended || words == "" || tabs != open || strings.Contains(words, "\t") || strings.Contains(words, "  ") || words[0] == ' ' || !slices.Contains(ends, words[len(words)-1:]) {
			t.Errorf("the line %q, where %d braces are open, of %.2000q", line, open, text)
		}
		if strings.HasSuffix(words, "{") {
			open++
		}
	}
	if open != 0 {
		t.Errorf("%d braces are open after %.2000q", open, text)
	}
	return len(lines)
}

func wantRefusedHall(t *testing.T, hall api.Hall) {
	t.Helper()
	if text, err := printer.Hall(hall); text != "" || err != api.ErrArg {
		t.Errorf("%.2000q, %v, and not refused", text, err)
	}
}

func wantRefusedRules(t *testing.T, rules api.Rules) {
	t.Helper()
	if text, err := printer.Rules(rules); text != "" || err != api.ErrArg {
		t.Errorf("%.2000q, %v, and not refused", text, err)
	}
}

func wantLimitOfHall(t *testing.T, hall api.Hall) {
	t.Helper()
	if text, err := printer.Hall(hall); text != "" || err != api.ErrLimit {
		t.Errorf("%.2000q, %v, and not beyond the limit", text, err)
	}
}

func wantLimitOfRules(t *testing.T, rules api.Rules) {
	t.Helper()
	if text, err := printer.Rules(rules); text != "" || err != api.ErrLimit {
		t.Errorf("%.2000q, %v, and not beyond the limit", text, err)
	}
}

// hallOfRow returns a hall with one row.
func hallOfRow(row api.Row) api.Hall {
	return api.Hall{Name: "h", Stage: api.Point{X: 5}, Levels: []api.Level{{Name: "l", Height: 2, Blocks: []api.Block{{Name: "b", Rows: []api.Row{row}}}}}}
}

// hallOfBytes returns a hall whose text has a number of bytes, and few tokens.
func hallOfBytes(t *testing.T, bytes int) api.Hall {
	t.Helper()
	hall := api.Hall{Name: "h", Levels: []api.Level{{Name: "l"}}}
	level := &hall.Levels[0]
	door := api.Point{X: 9999999999, Y: 9999999999}
	level.Doors = slices.Repeat([]api.Point{door}, (bytes-len(textOfHall(hall)))/len("\t\tdoor 9999999999 9999999999;\n"))
	hall.Name += strings.Repeat("_", min(23, bytes-len(textOfHall(hall))))
	level.Name += strings.Repeat("_", bytes-len(textOfHall(hall)))
	if n := len(textOfHall(hall)); n != bytes {
		t.Fatalf("%d bytes, not %d", n, bytes)
	}
	return hall
}

// rulesOfBytes returns rules whose text has a number of bytes, and few tokens.
func rulesOfBytes(t *testing.T, bytes int) api.Rules {
	t.Helper()
	test := api.Test{Attr: strings.Repeat("x", 24), Op: api.OpAtLeast, N: 9999999999}
	item := api.Item{Kind: api.RuleDeny, Name: "d", When: [][]api.Test{slices.Repeat([]api.Test{test}, 12)}}
	rules := api.Rules{Items: slices.Repeat([]api.Item{item}, bytes/len(textOfRules(api.Rules{Items: []api.Item{item}})))}
	for i := range rules.Items {
		rules.Items[i].Name += strings.Repeat("_", min(23, bytes-len(textOfRules(rules))))
	}
	if n := len(textOfRules(rules)); n != bytes {
		t.Fatalf("%d bytes, not %d", n, bytes)
	}
	return rules
}

// hallOfTokens returns a hall whose text has a number of tokens, and few bytes.
func hallOfTokens(t *testing.T, tokens int) api.Hall {
	t.Helper()
	hall := api.Hall{Name: "h", Levels: []api.Level{{Name: "l"}}}
	level := &hall.Levels[0]
	left := func() int { return tokens - tokensOf(textOfHall(hall)) }
	for left()%4 != 0 {
		level.Areas = append(level.Areas, api.Area{Name: "a"})
	}
	level.Doors = make([]api.Point, left()/4)
	if left() != 0 {
		t.Fatalf("%d tokens, not %d", tokensOf(textOfHall(hall)), tokens)
	}
	return hall
}

// rulesOfTokens returns rules whose text has a number of tokens, and few bytes.
func rulesOfTokens(t *testing.T, tokens int) api.Rules {
	t.Helper()
	rules := api.Rules{Items: slices.Repeat([]api.Item{{Kind: api.RuleDeny, Name: "d"}}, 20)}
	left := func() int { return tokens - tokensOf(textOfRules(rules)) }
	for left()%4 != 0 {
		rules.Items = append(rules.Items, api.Item{Kind: api.RuleDeny, Name: "d"})
	}
	tests := slices.Repeat([]api.Test{{Attr: "x", Op: api.OpLess, N: 1}}, left()/4)
	for i := 0; len(tests) > 0; i++ {
		n := min(len(tests), 12)
		item := &rules.Items[i/12]
		item.When = append(item.When, tests[:n])
		tests = tests[n:]
	}
	if left() != 0 {
		t.Fatalf("%d tokens, not %d", tokensOf(textOfRules(rules)), tokens)
	}
	return rules
}

// tokensOf counts the tokens of a text without errors.
func tokensOf(text string) int {
	return len(token.FindAllString(text, -1))
}

var token = regexp.MustCompile(`\w+|[!<>]=|[^\w\s]`)

// shuffled puts the items of each level of a canonical text in a random order.
func shuffled(text string, random *rand.Rand) string {
	var items []string
	result := ""
	for line := range strings.Lines(text) {
		switch tabs := len(line) - len(strings.TrimLeft(line, "\t")); {
		case tabs < 2:
			random.Shuffle(len(items), func(i, j int) { items[i], items[j] = items[j], items[i] })
			result += strings.Join(items, "") + line
			items = nil
		case tabs == 2 && line != "\t\t}\n":
			items = append(items, line)
		default:
			items[len(items)-1] += line
		}
	}
	return result
}

// withZeros writes the limits and fees into a canonical text that are not written in it.
func withZeros(text string) string {
	text = regexp.MustCompile(`(?m)^(allow \w+)(;| when)`).ReplaceAllString(text, "$1 limit 0$2")
	return regexp.MustCompile(`(?m)^(price \w+ \d+)(;| tax| when)`).ReplaceAllString(text, "$1 fee 0/1$2")
}

// loosened writes the tokens of a text with other gaps between them, and some numbers with zeros before them.
func loosened(t *testing.T, text string, random *rand.Rand) string {
	t.Helper()
	tokens, err, _ := lexer.Lex(text)
	if err != api.OK {
		t.Fatalf("%q: %v", text, err)
	}
	gaps := []string{" ", "  ", "\n", "\t", "# }\n", " # deny d;\n ", "#\n#!\n"}
	result := ""
	for _, token := range tokens {
		word := token.Text
		if token.Kind == api.TokNumber && random.IntN(4) == 0 {
			word = strings.Repeat("0", random.IntN(11-len(word))) + word
		}
		result += gaps[random.IntN(len(gaps))] + word
	}
	return result
}
