package rule_test

import (
	"math/rand/v2"
	"reflect"
	"slices"
	"strconv"
	"strings"
	"testing"

	"foyer/api"
	"foyer/lexer"
	"foyer/rule"
)

func TestChapterExamples(t *testing.T) {
	wantRules(t, "allow a limit 4 when time >= 100 and member = 1 or age < 18;", api.Item{Kind: api.RuleAllow, Name: "a", N: 4, When: [][]api.Test{
		{{Attr: "time", Op: api.OpAtLeast, N: 100, At: 21}, {Attr: "member", Op: api.OpEqual, N: 1, At: 37}},
		{{Attr: "age", Op: api.OpLess, N: 18, At: 51}},
	}})
	wantRules(t, "price p 5000 fee 1/10;", api.Item{Kind: api.RulePrice, Name: "p", N: 5000, R: api.Ratio{Num: 1, Den: 10}, S: api.Ratio{Num: 0, Den: 1}})
	wantRules(t, "deny d when block = stalls.a;", api.Item{Kind: api.RuleDeny, Name: "d", When: [][]api.Test{
		{{Attr: "block", Op: api.OpEqual, Name: "stalls.a", At: 12}},
	}})
	wantError(t, "allow a", api.ErrEnd, 7)
	wantError(t, "allow a when x 3;", api.ErrSyntax, 15)
}

// fullText has each part of the grammar, and fullItems are its rules.
const fullText = `# all there is
allow a1;
allow a2 limit 4;
deny d1;
price p1 11;
price p2 21 fee 22/23;
price p3 31 tax 32/33;
price p4 41 fee 42/43 tax 44/45;
resale r1 cap 51/52 share 53/54;
refund f1 61/62;
together t1;
single s1 when k = 71 and l != 72 or m < 73 or o <= n and q > n . n2 and u >= 76;
deny d2 when x = y.z;
price p5 81 tax 82/83 when v > 84;
`

func fullItems() []api.Item {
	at := func(text string) int { return strings.Index(fullText, text) }
	ratio := func(num, den int) api.Ratio { return api.Ratio{Num: num, Den: den} }
	return []api.Item{
		{Kind: api.RuleAllow, Name: "a1", At: at("allow a1")},
		{Kind: api.RuleAllow, Name: "a2", N: 4, At: at("allow a2")},
		{Kind: api.RuleDeny, Name: "d1", At: at("deny d1")},
		{Kind: api.RulePrice, Name: "p1", N: 11, R: ratio(0, 1), S: ratio(0, 1), At: at("price p1")},
		{Kind: api.RulePrice, Name: "p2", N: 21, R: ratio(22, 23), S: ratio(0, 1), At: at("price p2")},
		{Kind: api.RulePrice, Name: "p3", N: 31, R: ratio(0, 1), S: ratio(32, 33), At: at("price p3")},
		{Kind: api.RulePrice, Name: "p4", N: 41, R: ratio(42, 43), S: ratio(44, 45), At: at("price p4")},
		{Kind: api.RuleResale, Name: "r1", R: ratio(51, 52), S: ratio(53, 54), At: at("resale r1")},
		{Kind: api.RuleRefund, Name: "f1", R: ratio(61, 62), At: at("refund f1")},
		{Kind: api.RuleTogether, Name: "t1", At: at("together t1")},
		{Kind: api.RuleSingle, Name: "s1", At: at("single s1"), When: [][]api.Test{
			{{Attr: "k", Op: api.OpEqual, N: 71, At: at("k = ")}, {Attr: "l", Op: api.OpUnlike, N: 72, At: at("l != ")}},
			{{Attr: "m", Op: api.OpLess, N: 73, At: at("m < ")}},
			{{Attr: "o", Op: api.OpAtMost, Name: "n", At: at("o <= ")}, {Attr: "q", Op: api.OpMore, Name: "n.n2", At: at("q > ")}, {Attr: "u", Op: api.OpAtLeast, N: 76, At: at("u >= ")}},
		}},
		{Kind: api.RuleDeny, Name: "d2", At: at("deny d2"), When: [][]api.Test{{{Attr: "x", Op: api.OpEqual, Name: "y.z", At: at("x = ")}}}},
		{Kind: api.RulePrice, Name: "p5", N: 81, R: ratio(0, 1), S: ratio(82, 83), At: at("price p5"), When: [][]api.Test{{{Attr: "v", Op: api.OpMore, N: 84, At: at("v > ")}}}},
	}
}

// P7.1, G1: every number and name is where it belongs, and there is nothing else.
func TestFullRules(t *testing.T) {
	wantRules(t, fullText, fullItems()...)
}

// P7.1, G1: a text without tokens has no rules.
func TestNoRules(t *testing.T) {
	for _, text := range []string{"", " ", "\n\t ", "# allow", "#\n", "# deny d;\n"} {
		wantRules(t, text)
	}
}

// P7.1, G1: names may be key words, and may occur several times; key words are as they are written.
func TestNames(t *testing.T) {
	long := "n" + strings.Repeat("_", 23)
	for _, name := range append([]string{"Allow", "x", long}, keyWords...) {
		for _, head := range []string{"allow N", "allow N limit 7", "deny N", "price N 7", "price N 7 fee 7/7", "price N 7 tax 7/7", "resale N cap 7/7 share 7/7", "refund N 7/7", "together N", "single N"} {
			text := strings.ReplaceAll(head+" when N = N and N < 7 and N != N.N or N = N; "+head+";", "N", name)
			items := parsed(t, text)
			if len(items) != 2 || items[0].Name != name || items[1].Name != name {
				t.Fatalf("%q: %v", text, items)
			}
			want := [][]api.Test{
				{{Attr: name, Op: api.OpEqual, Name: name}, {Attr: name, Op: api.OpLess, N: 7}, {Attr: name, Op: api.OpUnlike, Name: name + "." + name}},
				{{Attr: name, Op: api.OpEqual, Name: name}},
			}
			if got := withoutOffsets(items); !same(got[0].When, want) || len(got[1].When) != 0 {
				t.Fatalf("%q: %v", text, items)
			}
		}
	}
	wantError(t, "Allow a;", api.ErrSyntax, 0)
	wantError(t, "allow a LIMIT 4;", api.ErrSyntax, 8)
	wantError(t, "allow a When x = 1;", api.ErrSyntax, 8)
	wantError(t, "allow a when x = 1 AND x = 1;", api.ErrSyntax, 19)
	wantError(t, "allow 7;", api.ErrSyntax, 6)
	wantError(t, "allow ;", api.ErrSyntax, 6)
	wantError(t, "allow a when 7 = x;", api.ErrSyntax, 13)
	wantError(t, "allow a when x = y.7;", api.ErrSyntax, 19)
	wantError(t, "allow a when x = 7.y;", api.ErrSyntax, 18)
	wantError(t, "allow a when x.y = 7;", api.ErrSyntax, 14)
	wantError(t, "allow a when x = y.z.w;", api.ErrSyntax, 20)
	wantError(t, "allow a.b;", api.ErrSyntax, 7)
}

// P7.1, G1: numbers and ratios are as they are written.
func TestNumbers(t *testing.T) {
	for written, n := range map[string]int{"0": 0, "1": 1, "007": 7, "1000001": 1000001, "2147483648": 2147483648, "9999999999": 9999999999} {
		text := strings.ReplaceAll("allow a limit 7; price p 7; price p 7 fee 7/7 tax 7/7; resale r cap 7/7 share 7/7; refund f 7/7; deny d when x = 7;", "7", written)
		ratio, none := api.Ratio{Num: n, Den: n}, api.Ratio{Num: 0, Den: 1}
		want := []api.Item{
			{Kind: api.RuleAllow, Name: "a", N: n},
			{Kind: api.RulePrice, Name: "p", N: n, R: none, S: none},
			{Kind: api.RulePrice, Name: "p", N: n, R: ratio, S: ratio},
			{Kind: api.RuleResale, Name: "r", R: ratio, S: ratio},
			{Kind: api.RuleRefund, Name: "f", R: ratio},
			{Kind: api.RuleDeny, Name: "d", When: [][]api.Test{{{Attr: "x", Op: api.OpEqual, N: n}}}},
		}
		if got := withoutOffsets(parsed(t, text)); !same(got, want) {
			t.Errorf("%q: %v, not %v", text, got, want)
		}
	}
	wantRules(t, "refund f 50/100;", api.Item{Kind: api.RuleRefund, Name: "f", R: api.Ratio{Num: 50, Den: 100}})
	wantRules(t, "price p 1 fee 0/5 tax 7/3;", api.Item{Kind: api.RulePrice, Name: "p", N: 1, R: api.Ratio{Num: 0, Den: 5}, S: api.Ratio{Num: 7, Den: 3}})
	wantError(t, "allow a limit -1;", api.ErrSyntax, 14)
	wantError(t, "price p;", api.ErrSyntax, 7)
	wantError(t, "price p x;", api.ErrSyntax, 8)
	wantError(t, "price p 1 tax 1/2 fee 1/2;", api.ErrSyntax, 18)
	wantError(t, "price p 1 fee 1/2 fee 1/2;", api.ErrSyntax, 18)
	wantError(t, "price p 1 fee 1;", api.ErrSyntax, 15)
	wantError(t, "resale r share 1/2 cap 1/2;", api.ErrSyntax, 9)
	wantError(t, "resale r cap 1/2;", api.ErrSyntax, 16)
	wantError(t, "refund f 1/x;", api.ErrSyntax, 11)
	wantError(t, "refund f;", api.ErrSyntax, 8)
}

// P7.1, G1: only permissions have limits, only prices fees and taxes, and so on.
func TestForeignParts(t *testing.T) {
	own := map[string]string{"limit 1": "allow", "fee 1/2": "price", "tax 1/2": "price", "cap 1/2": "", "share 1/2": "", "1": "", "1/2": "", "x": ""}
	for part, word := range own {
		for _, head := range []string{"allow a", "deny a", "price a 1", "resale a cap 1/2 share 1/2", "refund a 1/2", "together a", "single a"} {
			if !strings.HasPrefix(head, word+" ") {
				wantError(t, head+" "+part+";", api.ErrSyntax, len(head)+1)
			}
		}
	}
}

// P7.1, G1: the conditions of a rule.
func TestConditions(t *testing.T) {
	for text, at := range map[string]int{
		"deny d when;":                   11,
		"deny d x = 1;":                  7,
		"deny d when x;":                 13,
		"deny d when x =;":               15,
		"deny d when x = 1 y = 2;":       18,
		"deny d when x = 1 and;":         21,
		"deny d when x = 1 or;":          20,
		"deny d when x = 1 or or y = 2;": 24,
		"deny d when x = 1 when x = 1;":  18,
		"deny d when x = = 1;":           16,
		"deny d when x > = 1;":           16,
		"deny d when x == 1;":            15,
		"deny d when (x = 1);":           12,
		"deny d when x + 1;":             14,
		"deny d when x = -1;":            16,
		"deny d when x = 1;;":            18,
		"deny d;;":                       7,
		";":                              0,
		"deny d deny d;":                 7,
	} {
		wantError(t, text, api.ErrSyntax, at)
	}
	wantRules(t, "deny d when or=or or and=and and when=when;", api.Item{Kind: api.RuleDeny, Name: "d", When: [][]api.Test{
		{{Attr: "or", Op: api.OpEqual, Name: "or", At: 12}},
		{{Attr: "and", Op: api.OpEqual, Name: "and", At: 21}, {Attr: "when", Op: api.OpEqual, Name: "when", At: 33}},
	}})
}

// P7.1, G1: a word that the grammar does not have there is an error at it, wherever it is put into a rule.
func TestUnknownWords(t *testing.T) {
	const text = "price p 5 fee 1 / 2 tax 3 / 4 when x = 1 and y < z . w or v > 6 ;"
	for _, token := range lexed(t, text) {
		for _, other := range append([]string{"if", "unless", "xor", "not", "even", "ceil", "limits", "denies"}, words...) {
			longer := text[:token.At] + other + " " + text[token.At:]
			wantAsGrammar(t, longer)
			if token.Kind == api.TokSymbol && other == "if" {
				wantError(t, longer, api.ErrSyntax, token.At)
			}
		}
	}
	wantError(t, "allow a if x = 1;", api.ErrSyntax, 8)
	wantError(t, "permit a;", api.ErrSyntax, 0)
}

// P7.1, G1: the errors of the lexer come first, with their offsets.
func TestErrorsOfTheLexer(t *testing.T) {
	wantError(t, "allow a; !", api.ErrChar, 9)
	wantError(t, "x x x !", api.ErrChar, 6)
	wantError(t, "allow a !", api.ErrChar, 8)
	wantError(t, "allow a limit 4x;", api.ErrNumber, 14)
	wantError(t, "x allow 12345678901", api.ErrNumber, 8)
	wantError(t, "allow "+strings.Repeat("n", 25)+";", api.ErrLimit, 6)
	wantError(t, strings.Repeat(" ", 20001), api.ErrLimit, -1)
	wantError(t, "allow a;"+strings.Repeat("\n", 19993), api.ErrLimit, -1)
	wantError(t, "x!"+strings.Repeat("\n", 19999), api.ErrLimit, -1)
	wantError(t, strings.Repeat("; ", 5001), api.ErrLimit, 10000)
	wantError(t, strings.Repeat("deny d;", 201)+"!", api.ErrChar, 1407)
	wantRules(t, "allow a;"+strings.Repeat("\n", 19992), api.Item{Kind: api.RuleAllow, Name: "a"})
}

// P7.1, G1: at most 200 rules.
func TestManyRules(t *testing.T) {
	const one, all = "deny d; ", 200
	text := strings.Repeat(one, all)
	for _, after := range []string{"", "\n", "# deny d;", "# deny d;\n"} {
		if items := parsed(t, text+after); len(items) != all {
			t.Errorf("%d rules", len(items))
		}
	}
	for _, token := range words {
		wantError(t, text+token, api.ErrLimit, len(text))
		wantError(t, text+"\n"+token+" = deny", api.ErrLimit, len(text)+1)
	}
	wantError(t, text+one, api.ErrLimit, len(text))
	wantError(t, text+one+one+one, api.ErrLimit, len(text))
	wantError(t, strings.TrimSuffix(text, "; ")+" "+one+one, api.ErrSyntax, len(text)-1)
	wantError(t, strings.TrimSuffix(text, "; "), api.ErrEnd, len(text)-2)
	wantError(t, strings.Repeat(one, all-1)+"; ", api.ErrSyntax, len(text)-len(one))
}

// P7.1, G1: at most 12 lists of tests in a rule, and at most 12 tests in a list.
func TestManyTests(t *testing.T) {
	for _, joint := range []string{" or ", " and "} {
		const all = 12
		text := "deny d when " + strings.Join(slices.Repeat([]string{"x = 1"}, all), joint)
		items := parsed(t, text+";")
		if joint == " or " && (len(items[0].When) != all || len(items[0].When[all-1]) != 1) {
			t.Errorf("%q: %v", text, items)
		}
		if joint == " and " && (len(items[0].When) != 1 || len(items[0].When[0]) != all) {
			t.Errorf("%q: %v", text, items)
		}
		before := text + joint
		wantError(t, before, api.ErrEnd, len(before))
		wantError(t, before+"# x\n", api.ErrEnd, len(before)+4)
		for _, token := range words {
			wantError(t, before+token, api.ErrLimit, len(before))
			wantError(t, before+"\n"+token+" = x;", api.ErrLimit, len(before)+1)
		}
		wantError(t, before+"x = 1;", api.ErrLimit, len(before))
		wantError(t, before+"x = 1"+joint+"x = 1;", api.ErrLimit, len(before))
		wantError(t, text+" x"+joint+"x = 1;", api.ErrSyntax, len(text)+1)
		wantError(t, strings.TrimSuffix(text, "1")+joint+"x = 1;", api.ErrSyntax, len(text)+len(joint)-1)
	}
}

// P7.1, G1: the tests of each list, and the lists of each rule, are counted anew.
func TestFullLists(t *testing.T) {
	list := strings.Join(slices.Repeat([]string{"x=1"}, 12), " and ")
	one := "deny d when " + strings.Join(slices.Repeat([]string{list}, 12), " or ")
	text := strings.Repeat(one+";", 8)
	items := parsed(t, text)
	if len(items) != 8 {
		t.Fatalf("%d rules", len(items))
	}
	for _, item := range items {
		if len(item.When) != 12 {
			t.Fatalf("%d lists", len(item.When))
		}
		for _, tests := range item.When {
			if len(tests) != 12 {
				t.Fatalf("%d tests", len(tests))
			}
		}
	}
	wantError(t, strings.Repeat(one+";", 7)+one+" or x=1;", api.ErrLimit, len(text)-1+4)
	wantError(t, strings.Repeat(one+";", 7)+one+" and x=1;", api.ErrLimit, len(text)-1+5)
	// The rules have 8 * 579 tokens, so that the second one of the 92nd test is one too many; the lexer says so before the 13th test is read.
	wantError(t, text+"deny d when "+strings.Repeat("x=1 and ", 92), api.ErrLimit, len(text)+12+8*91+1)
}

// P7.1, G1: texts that end too early, in each token and gap.
func TestEnds(t *testing.T) {
	for _, text := range []string{"allow", "allow ", "allow # a", "allow a # ;", "price p", "price p 5", "price p 5 fee", "price p 5 fee 1 ", "price p 5 fee 1/", "resale r cap 1/2", "refund f 1 / \n", "deny d when", "deny d when x", "deny d when x =", "deny d when x = y", "deny d when x = y.", "deny d when x = 1 and", "deny d when x = 1 or", "deny d; deny"} {
		wantError(t, text, api.ErrEnd, len(text))
	}
	for end := range len(fullText) + 1 {
		wantAsGrammar(t, fullText[:end])
	}
}

// P7.1, G1: any token that is put in the place of another, before it, or is left out, is an error where the grammar says it is.
func TestChangedTokens(t *testing.T) {
	for _, token := range lexed(t, fullText) {
		before, after := fullText[:token.At], fullText[token.At+len(token.Text):]
		wantAsGrammar(t, before)
		wantAsGrammar(t, before+after)
		wantAsGrammar(t, before+token.Text+" "+token.Text+after)
		for _, other := range words {
			wantAsGrammar(t, before+other+after)
			wantAsGrammar(t, before+other+" "+token.Text+after)
		}
	}
}

// P7.1, G1: three tokens anywhere in a rule.
func TestSmallTexts(t *testing.T) {
	for _, text := range []string{"", "allow a", "allow a limit", "deny d", "price p", "price p 5", "price p 5 fee 1", "price p 5 fee 1/2", "resale r", "resale r cap 1/2", "refund f", "together t;", "single s when", "single s when x", "single s when x =", "single s when x = 1", "single s when x = y", "single s when x = y ."} {
		for _, first := range words {
			for _, second := range words {
				for _, third := range []string{"", "x", "7", ";", "/", "when"} {
					wantAsGrammar(t, text+" "+first+" "+second+" "+third)
				}
			}
		}
	}
}

// P7.1, G1: random rules, and what becomes of them when some tokens are changed.
func TestRandomRules(t *testing.T) {
	random := rand.New(rand.NewPCG(7, 1))
	for range 1000 {
		items := randomItems(random)
		text := written(items, random)
		wantRules(t, text, items...)
		wantAsGrammar(t, text)
		wantAsGrammar(t, changed(t, text, random))
	}
}

// P7.1, G1: rules with as many tests, lists and rules as there can be, or about as many, when some tokens are changed.
func TestRandomLimits(t *testing.T) {
	random := rand.New(rand.NewPCG(7, 2))
	found := map[api.Errno]int{}
	for range 500 {
		text := crowded(random)
		if random.IntN(2) > 0 {
			text = changed(t, text, random)
		}
		wantAsGrammar(t, text)
		_, err, _ := rule.Parse(text)
		found[err]++
	}
	for _, err := range []api.Errno{api.OK, api.ErrLimit, api.ErrSyntax, api.ErrEnd} {
		if found[err] < 20 {
			t.Errorf("only %d texts with the error %d", found[err], err)
		}
	}
}

// P7.2.
func TestJoining(t *testing.T) {
	random := rand.New(rand.NewPCG(7, 3))
	for range 500 {
		first, second := written(randomItems(random), random), written(randomItems(random), random)
		if random.IntN(4) == 0 {
			first += " # and"
		}
		want := append(parsed(t, first), moved(parsed(t, second), len(first)+1)...)
		wantRules(t, first+"\n"+second, want...)
	}
}

// P7.3.
func TestGaps(t *testing.T) {
	random := rand.New(rand.NewPCG(7, 4))
	for range 500 {
		text := written(randomItems(random), random)
		switch random.IntN(8) {
		case 0, 1, 2, 3:
			text = changed(t, text, random)
		case 4:
			text = crowded(random)
		}
		tokens := lexed(t, text)
		other := ""
		offsets := map[int]int{}
		for _, token := range tokens {
			other += randomGap(random)
			offsets[token.At] = len(other)
			other += token.Text
		}
		other += randomGap(random)
		if len(other) <= api.MaxSource {
			wantSameButGaps(t, text, other, offsets)
		}
	}
	wantRules(t, "price p 5 fee 1/2;deny d when x=y.z and x>=3 or x<4;",
		api.Item{Kind: api.RulePrice, Name: "p", N: 5, R: api.Ratio{Num: 1, Den: 2}, S: api.Ratio{Num: 0, Den: 1}},
		api.Item{Kind: api.RuleDeny, Name: "d", At: 18, When: [][]api.Test{
			{{Attr: "x", Op: api.OpEqual, Name: "y.z", At: 30}, {Attr: "x", Op: api.OpAtLeast, N: 3, At: 40}},
			{{Attr: "x", Op: api.OpLess, N: 4, At: 48}},
		}},
	)
}

// wantSameButGaps checks that two texts of the same tokens have the same results, but for the offsets, which become others.
func wantSameButGaps(t *testing.T, text, other string, offsets map[int]int) {
	t.Helper()
	rules, err, at := rule.Parse(text)
	for i := range rules.Items {
		item := &rules.Items[i]
		item.At = offsets[item.At]
		for _, tests := range item.When {
			for j := range tests {
				tests[j].At = offsets[tests[j].At]
			}
		}
	}
	switch err {
	case api.OK:
		wantRules(t, other, rules.Items...)
	case api.ErrEnd:
		wantError(t, other, err, len(other))
	default:
		wantError(t, other, err, offsets[at])
	}
}

// P7.4.
func TestOffsets(t *testing.T) {
	random := rand.New(rand.NewPCG(7, 5))
	for range 500 {
		text := written(randomItems(random), random)
		tokens := lexed(t, text)
		last := -1
		// next is the token after the one that a rule or a test begins with.
		next := func(word string, at int) api.Token {
			t.Helper()
			i := slices.IndexFunc(tokens, func(token api.Token) bool { return token.At == at })
			if i < 0 || tokens[i].Text != word || at <= last {
				t.Fatalf("no %s stands at %d, after %d, of %q", word, at, last, text)
			}
			last = at
			return tokens[i+1]
		}
		for _, item := range parsed(t, text) {
			if name := next(headWords[item.Kind-api.RuleAllow], item.At); name.Text != item.Name {
				t.Fatalf("%q stands where the name %q should in %q", name.Text, item.Name, text)
			}
			for _, tests := range item.When {
				for _, test := range tests {
					if op := next(test.Attr, test.At); op.Text != opWords[test.Op-api.OpEqual] {
						t.Fatalf("%q stands where the operation %d should in %q", op.Text, test.Op, text)
					}
				}
			}
		}
	}
}

// P7.5.
func TestErrors(t *testing.T) {
	random := rand.New(rand.NewPCG(7, 6))
	found := map[api.Errno]int{}
	for range 3000 {
		text := written(randomItems(random), random)
		if random.IntN(8) == 0 {
			text = crowded(random)
		}
		text = changed(t, text, random)
		_, err, at := rule.Parse(text)
		found[err]++
		switch err {
		case api.ErrEnd:
			wantFurtherToken(t, text)
		case api.ErrSyntax, api.ErrLimit:
			if _, err, _ := rule.Parse(text[:at]); err != api.OK && err != api.ErrEnd {
				t.Fatalf("%q begins no rules: %v", text[:at], err)
			}
			wantWhateverFollows(t, text, err, at, random)
		}
	}
	for _, err := range []api.Errno{api.ErrLimit, api.ErrSyntax, api.ErrEnd} {
		if found[err] < 30 {
			t.Errorf("only %d texts with the error %d", found[err], err)
		}
	}
}

// wantWhateverFollows checks that a text has its error with any tokens behind the token of it.
func wantWhateverFollows(t *testing.T, text string, err api.Errno, at int, random *rand.Rand) {
	t.Helper()
	tokens := lexed(t, text)
	wrong := tokens[slices.IndexFunc(tokens, func(token api.Token) bool { return token.At == at })]
	until := text[:at+len(wrong.Text)]
	wantError(t, until, err, at)
	for range 5 {
		rest := ""
		for range random.IntN(20) {
			rest += randomGap(random) + words[random.IntN(len(words))]
		}
		if len(until)+len(rest) <= api.MaxSource {
			wantError(t, until+rest, err, at)
		}
	}
}

// wantFurtherToken checks that a text becomes rules, or a longer beginning, by some token; unless that is one beyond a limit, as the text ends where an element can only be one too many.
func wantFurtherToken(t *testing.T, text string) {
	t.Helper()
	beyond := false
	for _, word := range words {
		longer := text + "\n" + word
		_, err, at := rule.Parse(longer)
		if err == api.OK || err == api.ErrEnd && at == len(longer) {
			return
		}
		beyond = beyond || err == api.ErrLimit && at == len(text)+1
	}
	if !beyond {
		t.Fatalf("%q goes on with no token", text)
	}
}

// P7.5: behind the error of a token that is none, too, anything can stand.
func TestErrorsOfTheLexerFirst(t *testing.T) {
	for _, rest := range []string{"", " ;", "!", " 7x ", "\n# x\n\x00", strings.Repeat(" deny d;", 300)} {
		wantError(t, "deny d when x ! 3;"+rest, api.ErrChar, 14)
		wantError(t, "deny d when x > 3x;"+rest, api.ErrNumber, 16)
		wantError(t, "deny "+strings.Repeat("d", 25)+rest, api.ErrLimit, 5)
	}
}

// P7.6.
func TestLeavingOut(t *testing.T) {
	random := rand.New(rand.NewPCG(7, 7))
	for range 300 {
		text := written(randomItems(random), random)
		items := parsed(t, text)
		for i, item := range items {
			end := endOf(t, text, items, i)
			want := append(slices.Clone(items[:i]), moved(parsed(t, text)[i+1:], item.At-end-1)...)
			wantRules(t, text[:item.At]+text[end+1:], want...)
		}
	}
}

// P7.7.
func TestAlternatives(t *testing.T) {
	random := rand.New(rand.NewPCG(7, 8))
	for range 300 {
		text := written(randomItems(random), random)
		items := parsed(t, text)
		for i := range items {
			end := endOf(t, text, items, i)
			added := "when "
			if len(items[i].When) > 0 {
				added = " or "
			}
			at := end + len(added)
			added += "x < 7 and y != z.w or and = or "
			want := append(slices.Clone(items[:i+1]), moved(parsed(t, text)[i+1:], len(added))...)
			want[i].When = append(slices.Clone(items[i].When),
				[]api.Test{{Attr: "x", Op: api.OpLess, N: 7, At: at}, {Attr: "y", Op: api.OpUnlike, Name: "z.w", At: at + 10}},
				[]api.Test{{Attr: "and", Op: api.OpEqual, Name: "or", At: at + 22}})
			wantRules(t, text[:end]+added+text[end:], want...)
		}
	}
	text := "deny d when x = 0"
	for n := range 12 {
		items := parsed(t, text+";")
		if last := items[0].When[n]; len(items[0].When) != n+1 || last[0].N != n {
			t.Fatalf("%q: %v", text, items)
		}
		text += " or x = " + strconv.Itoa(n+1)
	}
	wantError(t, text+";", api.ErrLimit, strings.LastIndex(text, "x"))
}

// endOf returns the offset of the semicolon of a rule.
func endOf(t *testing.T, text string, items []api.Item, i int) int {
	t.Helper()
	end := -1
	for _, token := range lexed(t, text) {
		if i+1 == len(items) || token.At < items[i+1].At {
			end = token.At
		}
	}
	if end < 0 || text[end] != ';' {
		t.Fatalf("rule %d of %q ends with no semicolon", i, text)
	}
	return end
}

// P1: no text makes Parse panic, and with an error there are no rules.
func TestAnyText(t *testing.T) {
	random := rand.New(rand.NewPCG(7, 9))
	for range 3000 {
		bytes := make([]byte, random.IntN(30))
		for i := range bytes {
			bytes[i] = byte(random.IntN(256))
		}
		wantAsGrammar(t, string(bytes))
		wantAsGrammar(t, "deny d when x = 1 "+string(bytes))
		text := ""
		for range random.IntN(30) {
			text += words[random.IntN(len(words))] + " "
		}
		wantAsGrammar(t, text)
		wantAsGrammar(t, "deny d when "+text)
		wantAsGrammar(t, headWords[random.IntN(len(headWords))]+" a "+text)
	}
}

// P3: equal texts have equal results, each of which has memory of its own.
func TestIndependence(t *testing.T) {
	random := rand.New(rand.NewPCG(7, 10))
	for range 200 {
		text := written(randomItems(random), random)
		first, second := parsed(t, text), parsed(t, strings.Clone(text))
		if !same(first, second) {
			t.Fatalf("%q has two results", text)
		}
		spoil(second)
		wantRules(t, text, first...)
		wrong := changed(t, text, random)
		_, err, at := rule.Parse(wrong)
		if _, err2, at2 := rule.Parse(strings.Clone(wrong)); err != err2 || at != at2 {
			t.Fatalf("%q has two errors", wrong)
		}
	}
}

// P3: no two slices of one result share memory, so that one can grow without another.
func TestSlicesOfOneResult(t *testing.T) {
	random := rand.New(rand.NewPCG(7, 11))
	for range 200 {
		items := randomItems(random)
		got := parsed(t, written(items, random))
		_ = append(got, api.Item{Kind: -1})
		for _, item := range got {
			_ = append(item.When, []api.Test{{Op: -1}})
			for _, tests := range item.When {
				_ = append(tests, api.Test{Op: -1})
			}
		}
		if !same(got, items) {
			t.Fatalf("%v shares memory", items)
		}
	}
}

// headWords and opWords are in the order of the constants of package api; keyWords are the words of the grammar; words are other tokens, too.
var (
	headWords = strings.Fields("allow deny price resale refund together single")
	opWords   = strings.Fields("= != < <= > >=")
	keyWords  = append(strings.Fields("when or and limit fee tax cap share"), headWords...)
	words     = slices.Concat(strings.Fields("; x n_1 0 7 9999999999 , . : ( ) { } + - /"), opWords, keyWords)
)

func wantRules(t *testing.T, text string, want ...api.Item) {
	t.Helper()
	rules, err, at := rule.Parse(text)
	if !same(rules.Items, want) || err != api.OK || at != 0 {
		t.Errorf("%.500q: %v, %v, %d, not %v", text, rules, err, at, want)
	}
}

func wantError(t *testing.T, text string, wantErr api.Errno, wantAt int) {
	t.Helper()
	rules, err, at := rule.Parse(text)
	if err != wantErr || at != wantAt || err != api.OK && !reflect.DeepEqual(rules, api.Rules{}) {
		t.Errorf("%.500q: %v, %v, %d, not %v, %d", text, rules, err, at, wantErr, wantAt)
	}
}

// wantAsGrammar checks that a text is rules, or has an error, as the chapter's grammar and its limits say.
func wantAsGrammar(t *testing.T, text string) {
	t.Helper()
	err, at := judged(text)
	wantError(t, text, err, at)
}

func lexed(t *testing.T, text string) []api.Token {
	t.Helper()
	tokens, err, _ := lexer.Lex(text)
	if err != api.OK {
		t.Fatalf("%q: %v", text, err)
	}
	return tokens
}

func parsed(t *testing.T, text string) []api.Item {
	t.Helper()
	rules, err, at := rule.Parse(text)
	if err != api.OK || at != 0 {
		t.Fatalf("%q: %v, %d", text, err, at)
	}
	return rules.Items
}

// same compares rules, or conditions; slices without elements are the same, nil or not.
func same[T any](a, b []T) bool {
	return len(a) == 0 && len(b) == 0 || reflect.DeepEqual(copied(a), copied(b))
}

// copied copies rules or conditions, in which the empty slices become nil.
func copied[T any](list []T) []T {
	list = append([]T(nil), list...)
	for i := range list {
		switch element := any(&list[i]).(type) {
		case *api.Item:
			element.When = copied(element.When)
		case *[]api.Test:
			*element = append([]api.Test(nil), *element...)
		}
	}
	return list
}

// withoutOffsets returns a copy of rules in which every offset is 0.
func withoutOffsets(items []api.Item) []api.Item {
	items = copied(items)
	for i := range items {
		items[i].At = 0
		for _, tests := range items[i].When {
			for j := range tests {
				tests[j].At = 0
			}
		}
	}
	return items
}

// moved returns a copy of rules in which every offset is greater by a number.
func moved(items []api.Item, by int) []api.Item {
	items = copied(items)
	for i := range items {
		items[i].At += by
		for _, tests := range items[i].When {
			for j := range tests {
				tests[j].At += by
			}
		}
	}
	return items
}

// spoil changes what each slice of rules holds.
func spoil(items []api.Item) {
	for _, item := range items {
		for _, tests := range item.When {
			clear(tests)
		}
		clear(item.When)
	}
	clear(items)
}

func randomName(random *rand.Rand) string {
	names := append([]string{"a", "b2", "Z_", "n" + strings.Repeat("7", 23)}, keyWords...)
	return names[random.IntN(len(names))]
}

func randomNumber(random *rand.Rand) int {
	switch random.IntN(10) {
	case 0:
		return 0
	case 1:
		return random.IntN(10000000000)
	}
	return random.IntN(1000)
}

// several returns as many things that a function makes, from some number of them up to 3.
func several[T any](random *rand.Rand, least int, one func(*rand.Rand) T) []T {
	var list []T
	for range least + random.IntN(4-least) {
		list = append(list, one(random))
	}
	return list
}

// randomItems returns rules without offsets.
func randomItems(random *rand.Rand) []api.Item {
	return several(random, 0, randomItem)
}

func randomItem(random *rand.Rand) api.Item {
	n := func() int { return randomNumber(random) }
	ratio := func() api.Ratio { return api.Ratio{Num: n(), Den: n()} }
	feeOrTax := func() api.Ratio {
		if random.IntN(2) > 0 {
			return api.Ratio{Num: 0, Den: 1}
		}
		return ratio()
	}
	item := api.Item{Kind: api.RuleAllow + random.IntN(len(headWords)), Name: randomName(random), When: several(random, 0, randomTests)}
	switch item.Kind {
	case api.RuleAllow:
		item.N = n()
	case api.RulePrice:
		item.N, item.R, item.S = n(), feeOrTax(), feeOrTax()
	case api.RuleResale:
		item.R, item.S = ratio(), ratio()
	case api.RuleRefund:
		item.R = ratio()
	}
	return item
}

func randomTests(random *rand.Rand) []api.Test {
	return several(random, 1, randomTest)
}

func randomTest(random *rand.Rand) api.Test {
	test := api.Test{Attr: randomName(random), Op: api.OpEqual + random.IntN(len(opWords))}
	switch random.IntN(3) {
	case 0:
		test.N = randomNumber(random)
	case 1:
		test.Name = randomName(random)
	case 2:
		test.Name = randomName(random) + "." + randomName(random)
	}
	return test
}

func randomGap(random *rand.Rand) string {
	gaps := []string{" ", "  ", "\n", "\t", "# ;\n", " # deny d when x = 7;\n ", "#\n#!\n"}
	return gaps[random.IntN(len(gaps))]
}

// crowded returns rules with nearly as many, as many, or more rules, lists of tests, or tests than there can be.
func crowded(random *rand.Rand) string {
	many := func(most int, parts ...string) string {
		list := make([]string, most-1+random.IntN(3))
		for i := range list {
			list[i] = parts[random.IntN(len(parts))]
		}
		return strings.Join(list, " ")
	}
	condition := "and=7"
	switch random.IntN(3) {
	case 0:
		return many(api.MaxItems, "deny d;", "allow or limit 7;", "single s when or=7 or and<or;", "price p 7 fee 1/2;")
	case 1:
		condition += " " + many(api.MaxTests, "or or=7", "or and<or and or>and.or", "or x>=y")
	case 2:
		condition += " " + many(api.MaxTests, "and or=7", "and and<or", "and x>=y.or")
	}
	one := "deny d when x=y or " + condition + ";"
	return many(3, one, "allow a;")
}

// A writer writes a text of tokens with gaps between them.
type writer struct {
	text   string
	random *rand.Rand
}

// add writes words, numbers and ratios, and returns the offset of the first one.
func (w *writer) add(parts ...any) int {
	at := -1
	for _, part := range parts {
		if ratio, ok := part.(api.Ratio); ok {
			w.add(ratio.Num, "/", ratio.Den)
			continue
		}
		w.text += randomGap(w.random)
		if at < 0 {
			at = len(w.text)
		}
		switch part := part.(type) {
		case string:
			w.text += part
		case int:
			if part < 1000 && w.random.IntN(8) == 0 {
				w.text += "00"
			}
			w.text += strconv.Itoa(part)
		}
	}
	return at
}

// written writes rules, and notes the offsets in them; what may be left out because it is zero is sometimes written.
func written(items []api.Item, random *rand.Rand) string {
	w := &writer{random: random}
	for i := range items {
		item := &items[i]
		item.At = w.add(headWords[item.Kind-api.RuleAllow], item.Name)
		w.addParts(item)
		for j, tests := range item.When {
			w.add([]string{"when", "or"}[min(j, 1)])
			for k := range tests {
				if k > 0 {
					w.add("and")
				}
				w.addTest(&tests[k])
			}
		}
		w.add(";")
	}
	return w.text
}

func (w *writer) addParts(item *api.Item) {
	switch item.Kind {
	case api.RuleAllow:
		if item.N != 0 || w.random.IntN(2) > 0 {
			w.add("limit", item.N)
		}
	case api.RulePrice:
		w.add(item.N)
		for i, ratio := range []api.Ratio{item.R, item.S} {
			if ratio != (api.Ratio{Num: 0, Den: 1}) || w.random.IntN(2) > 0 {
				w.add([]string{"fee", "tax"}[i], ratio)
			}
		}
	case api.RuleResale:
		w.add("cap", item.R, "share", item.S)
	case api.RuleRefund:
		w.add(item.R)
	}
}

func (w *writer) addTest(test *api.Test) {
	test.At = w.add(test.Attr, opWords[test.Op-api.OpEqual])
	name, second, dotted := strings.Cut(test.Name, ".")
	switch {
	case dotted:
		w.add(name, ".", second)
	case name != "":
		w.add(name)
	default:
		w.add(test.N)
	}
}

// changed cuts a text off after a token, or changes, adds or takes away some tokens.
func changed(t *testing.T, text string, random *rand.Rand) string {
	t.Helper()
	for range 1 + random.IntN(2) {
		tokens := lexed(t, text)
		if len(tokens) == 0 {
			return text
		}
		token := tokens[random.IntN(len(tokens))]
		// Blanks keep the tokens from becoming others.
		before, after := text[:token.At]+" ", " "+text[token.At+len(token.Text):]
		other := words[random.IntN(len(words))]
		switch random.IntN(5) {
		case 0:
			text = before + token.Text
		case 1:
			text = before + after
		case 2:
			text = before + other + after
		case 3:
			text = before + other + " " + token.Text + after
		case 4:
			text = before + token.Text + " " + token.Text + after
		}
	}
	return text
}
