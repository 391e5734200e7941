package plan_test

import (
	"math/rand/v2"
	"reflect"
	"regexp"
	"slices"
	"strconv"
	"strings"
	"testing"

	"foyer/api"
	"foyer/lexer"
	"foyer/plan"
)

func TestChapterExamples(t *testing.T) {
	wantHall(t, "hall h stage 5 0 { }", api.Hall{Name: "h", Stage: api.Point{X: 5}})
	wantHall(t, "hall h stage 5 0 { level a height 2 { door 1 2; aisle 0 0 3 4; } }", api.Hall{Name: "h", Stage: api.Point{X: 5}, Levels: []api.Level{
		{Name: "a", Height: 2, Aisles: []api.Box{{X2: 3, Y2: 4}}, Doors: []api.Point{{X: 1, Y: 2}}, At: 19},
	}})
	wantError(t, "hall h stage 5 { }", api.ErrSyntax, 15)
	wantError(t, "hall h stage 5 0 { level", api.ErrEnd, 24)
	wantError(t, "hall h stage 5 0 { } x", api.ErrSyntax, 21)
}

// fullText has each part of the grammar, and fullHall is its hall.
const fullText = `# all there is
hall opera stage 500 10 {
level stalls height 0 {
block left {
row a at 11 12 seats 1 to 8 step 9 gap 3 wheel 4 beside 5 of 6 hidden 7;
row b at 21 22 seats 23 to 24 step 25;
}
area pit 31 32 33 34 holds 35;
aisle 41 42 43 44;
pillar 51 52 53 54;
door 61 62;
block right { }
}
level balcony height 70 { }
}
`

func fullHall() api.Hall {
	at := func(word string) int { return strings.Index(fullText, word) }
	return api.Hall{Name: "opera", Stage: api.Point{X: 500, Y: 10}, Levels: []api.Level{
		{
			Name:   "stalls",
			Height: 0,
			Blocks: []api.Block{
				{Name: "left", At: at("block left"), Rows: []api.Row{
					{Name: "a", X: 11, Y: 12, From: 1, To: 8, Step: 9, At: at("row a"), Marks: []api.Mark{
						{Kind: api.MarkGap, Seat: 3}, {Kind: api.MarkWheel, Seat: 4}, {Kind: api.MarkBeside, Seat: 5, With: 6}, {Kind: api.MarkHidden, Seat: 7},
					}},
					{Name: "b", X: 21, Y: 22, From: 23, To: 24, Step: 25, At: at("row b")},
				}},
				{Name: "right", At: at("block right")},
			},
			Areas:   []api.Area{{Name: "pit", Box: api.Box{X: 31, Y: 32, X2: 33, Y2: 34}, Holds: 35, At: at("area pit")}},
			Aisles:  []api.Box{{X: 41, Y: 42, X2: 43, Y2: 44}},
			Pillars: []api.Box{{X: 51, Y: 52, X2: 53, Y2: 54}},
			Doors:   []api.Point{{X: 61, Y: 62}},
			At:      at("level stalls"),
		},
		{Name: "balcony", Height: 70, At: at("level balcony")},
	}}
}

// P6.1, F1: every number and name is where it belongs.
func TestFullHall(t *testing.T) {
	wantHall(t, fullText, fullHall())
}

// P6.1, F1: names may be key words, and may occur several times.
func TestNames(t *testing.T) {
	long := "n" + strings.Repeat("_", 23)
	for _, name := range append([]string{"Hall", "x", long}, keyWords...) {
		text := strings.ReplaceAll("hall N stage 1 2 { level N height 3 { block N { row N at 1 2 seats 3 to 4 step 5; row N at 1 2 seats 3 to 4 step 5; } block N { } area N 1 2 3 4 holds 5; area N 1 2 3 4 holds 5; } level N height 3 { } }", "N", name)
		hall := parsed(t, text)
		first := hall.Levels[0]
		for _, got := range []string{hall.Name, first.Name, hall.Levels[1].Name, first.Blocks[0].Name, first.Blocks[1].Name, first.Blocks[0].Rows[0].Name, first.Blocks[0].Rows[1].Name, first.Areas[0].Name, first.Areas[1].Name} {
			if got != name {
				t.Errorf("the name %q became %q", name, got)
			}
		}
	}
	wantError(t, "hall HALL stage 1 2 { Level a height 3 { } }", api.ErrSyntax, 22)
	wantError(t, "Hall h stage 1 2 { }", api.ErrSyntax, 0)
	wantError(t, "hall 7 stage 1 2 { }", api.ErrSyntax, 5)
	wantError(t, "hall { stage 1 2 { }", api.ErrSyntax, 5)
}

// P6.1, F1: numbers are taken as they are.
func TestNumbers(t *testing.T) {
	for written, n := range map[string]int{"0": 0, "007": 7, "10001": 10001, "2147483648": 2147483648, "9999999999": 9999999999} {
		text := strings.ReplaceAll("hall h stage 7 7 { level a height 7 { block b { row c at 7 7 seats 7 to 7 step 7 gap 7 wheel 7 hidden 7 beside 7 of 7; } area d 7 7 7 7 holds 7; aisle 7 7 7 7; pillar 7 7 7 7; door 7 7; } }", "7", written)
		box, point := api.Box{X: n, Y: n, X2: n, Y2: n}, api.Point{X: n, Y: n}
		marks := []api.Mark{{Kind: api.MarkGap, Seat: n}, {Kind: api.MarkWheel, Seat: n}, {Kind: api.MarkHidden, Seat: n}, {Kind: api.MarkBeside, Seat: n, With: n}}
		want := api.Hall{Name: "h", Stage: point, Levels: []api.Level{{
			Name:    "a",
			Height:  n,
			Blocks:  []api.Block{{Name: "b", Rows: []api.Row{{Name: "c", X: n, Y: n, From: n, To: n, Step: n, Marks: marks}}}},
			Areas:   []api.Area{{Name: "d", Box: box, Holds: n}},
			Aisles:  []api.Box{box},
			Pillars: []api.Box{box},
			Doors:   []api.Point{point},
		}}}
		if got := withoutOffsets(parsed(t, text)); !same(got, want) {
			t.Errorf("%s became %v", written, got)
		}
	}
	wantError(t, "hall h stage -1 2 { }", api.ErrSyntax, 13)
	wantError(t, "hall h stage x 2 { }", api.ErrSyntax, 13)
}

// P6.1, F1: the errors of the lexer come first, with their offsets.
func TestErrorsOfTheLexer(t *testing.T) {
	wantError(t, "hall h stage 5 0 { } !", api.ErrChar, 21)
	wantError(t, "x x x !", api.ErrChar, 6)
	wantError(t, "hall h stage 5x 0 { }", api.ErrNumber, 13)
	wantError(t, "x hall 12345678901", api.ErrNumber, 7)
	wantError(t, "hall "+strings.Repeat("n", 25)+" stage 5 0 { }", api.ErrLimit, 5)
	wantError(t, strings.Repeat(" ", 20001), api.ErrLimit, -1)
	wantError(t, "hall h stage 5 0 { }"+strings.Repeat("\n", 19981), api.ErrLimit, -1)
	wantError(t, "x!"+strings.Repeat("\n", 19999), api.ErrLimit, -1)
	wantError(t, strings.Repeat("; ", 5001), api.ErrLimit, 10000)
	wantHall(t, "hall h stage 5 0 { }"+strings.Repeat("\n", 19980), api.Hall{Name: "h", Stage: api.Point{X: 5}})
}

// P6.1, F1: as many tokens as the lexer permits.
func TestManyTokens(t *testing.T) {
	before, level := "hall h stage 5 0 { level a height 2 {", "door 1 2;"
	doors := strings.Repeat(level, 1246)
	hall := parsed(t, before+doors+" } }")
	if len(hall.Levels) != 1 || len(hall.Levels[0].Doors) != 1246 {
		t.Errorf("a hall of %d levels", len(hall.Levels))
	}
	wantError(t, before+doors+level, api.ErrEnd, len(before+doors+level))
	wantError(t, before+doors+level+";", api.ErrSyntax, len(before+doors+level))
	wantError(t, before+doors+level+"door ;", api.ErrLimit, len(before+doors+level+"door "))
}

// P6.1, F1: texts that end too early, in each token and gap.
func TestEnds(t *testing.T) {
	for _, text := range []string{"", " ", "\n\t ", "# hall", "#\n", "hall", "hall ", "hall # h", "hall h stage", "hall h stage 5", "hall h stage 5 0 {", "hall h stage 5 0 {\n# }\n"} {
		wantError(t, text, api.ErrEnd, len(text))
	}
	for end := range len(fullText) + 1 {
		wantAsGrammar(t, fullText[:end])
	}
	for _, token := range lexed(t, fullText) {
		wantError(t, fullText[:token.At], api.ErrEnd, token.At)
	}
}

// P6.1, F1: any token that is put in the place of another, before it, or is left out, is an error where the grammar says it is.
func TestChangedTokens(t *testing.T) {
	for _, token := range lexed(t, fullText) {
		before, after := fullText[:token.At], fullText[token.At+len(token.Text):]
		wantAsGrammar(t, before+after)
		wantAsGrammar(t, before+token.Text+" "+token.Text+after)
		for _, other := range words {
			wantAsGrammar(t, before+other+after)
			wantAsGrammar(t, before+other+" "+token.Text+after)
		}
	}
}

// P6.1, F1: three tokens anywhere in a hall.
func TestSmallTexts(t *testing.T) {
	for _, text := range []string{"", "hall h stage 5 0", "hall h stage 5 0 {", "hall h stage 5 0 { level a height 2 {", "hall h stage 5 0 { level a height 2 { block b {", "hall h stage 5 0 { level a height 2 { block b { row r at 1 2 seats 3 to 4 step 5", "hall h stage 5 0 { level a height 2 { block b { row r at 1 2 seats 3 to 4 step 5 ;", "hall h stage 5 0 { level a height 2 { block b { row r at 1 2 seats 3 to 4 step 5 ; } } }"} {
		for _, first := range words {
			for _, second := range words {
				for _, third := range []string{"", "x", "7", "}", ";", "of", "level"} {
					wantAsGrammar(t, text+" "+first+" "+second+" "+third)
				}
			}
		}
	}
}

// P6.1, F1: random halls, and what becomes of them when some tokens are changed.
func TestRandomHalls(t *testing.T) {
	random := rand.New(rand.NewPCG(6, 1))
	for range 1000 {
		hall := randomHall(random)
		text := written(&hall, random)
		wantHall(t, text, hall)
		wantAsGrammar(t, text)
		wantAsGrammar(t, changed(t, text, random))
	}
}

// P6.2.
func TestGaps(t *testing.T) {
	random := rand.New(rand.NewPCG(6, 2))
	for range 300 {
		hall := randomHall(random)
		text := written(&hall, random)
		if random.IntN(2) > 0 {
			text = changed(t, text, random)
		}
		tokens := lexed(t, text)
		other := ""
		var offsets []int
		for i, token := range tokens {
			if i > 0 || random.IntN(2) > 0 {
				other += randomGap(random)
			}
			offsets = append(offsets, len(other))
			other += token.Text
		}
		other += randomGap(random)
		wantSameButGaps(t, text, other, tokens, offsets)
	}
	wantHall(t, "hall h stage 5 0{level a height 2{door 1 2;aisle 0 0 3 4;}}", api.Hall{Name: "h", Stage: api.Point{X: 5}, Levels: []api.Level{
		{Name: "a", Height: 2, Aisles: []api.Box{{X2: 3, Y2: 4}}, Doors: []api.Point{{X: 1, Y: 2}}, At: 17},
	}})
}

// wantSameButGaps checks that two texts of the same tokens, which are at other offsets in the second one, have the same results apart from offsets.
func wantSameButGaps(t *testing.T, text, other string, tokens []api.Token, offsets []int) {
	t.Helper()
	hall, err, at := plan.Parse(text)
	otherHall, otherErr, otherAt := plan.Parse(other)
	if !same(withoutOffsets(hall), withoutOffsets(otherHall)) || err != otherErr {
		t.Fatalf("%q and %q differ", text, other)
	}
	switch err {
	case api.ErrEnd:
		at = len(other)
	case api.ErrSyntax:
		at = offsets[slices.IndexFunc(tokens, func(token api.Token) bool { return token.At == at })]
	}
	if at != otherAt {
		t.Fatalf("%q: %v at %d, not %d", other, err, otherAt, at)
	}
}

// P6.3.
func TestFirstError(t *testing.T) {
	random := rand.New(rand.NewPCG(6, 3))
	found := 0
	for range 2000 {
		hall := randomHall(random)
		text := changed(t, written(&hall, random), random)
		_, err, at := plan.Parse(text)
		if err != api.ErrSyntax {
			continue
		}
		found++
		tokens := lexed(t, text)
		wrong := tokens[slices.IndexFunc(tokens, func(token api.Token) bool { return token.At == at })]
		until := text[:at+len(wrong.Text)]
		wantError(t, until, api.ErrSyntax, at)
		for range 5 {
			rest := ""
			for range random.IntN(20) {
				rest += randomGap(random) + words[random.IntN(len(words))]
			}
			wantError(t, until+rest, api.ErrSyntax, at)
		}
		if _, err, _ := plan.Parse(text[:at]); err != api.OK && err != api.ErrEnd {
			t.Fatalf("%q begins no hall: %v", text[:at], err)
		}
	}
	if found < 500 {
		t.Errorf("only %d texts with ErrSyntax", found)
	}
}

// P6.4.
func TestOffsets(t *testing.T) {
	random := rand.New(rand.NewPCG(6, 4))
	for range 500 {
		described := randomHall(random)
		text := written(&described, random)
		hall := parsed(t, text)
		last := -1
		check := func(word, name string, at int) {
			t.Helper()
			if at < 0 || !strings.HasPrefix(text[at:], word) {
				t.Fatalf("no %s %s stands at %d of %q", word, name, at, text)
			}
			if at <= last {
				t.Fatalf("%s %s at %d of %q is not after %d", word, name, at, text, last)
			}
			last = at
		}
		for _, level := range hall.Levels {
			check("level", level.Name, level.At)
			start := last
			for _, block := range level.Blocks {
				check("block", block.Name, block.At)
				for _, row := range block.Rows {
					check("row", row.Name, row.At)
				}
			}
			end := last
			last = start
			for _, area := range level.Areas {
				check("area", area.Name, area.At)
			}
			last = max(last, end)
		}
	}
}

// P6.5.
func TestLevels(t *testing.T) {
	random := rand.New(rand.NewPCG(6, 5))
	for range 300 {
		first, second := randomHall(random), randomHall(random)
		text, other := written(&first, random), written(&second, random)
		opening := lexed(t, other)[5]
		if opening.Text != "{" {
			t.Fatalf("%q opens with %q", other, opening.Text)
		}
		before, levels := strings.TrimSuffix(text, "}"), other[opening.At+1:]
		got := parsed(t, before+levels)
		want := first
		want.Levels = append(slices.Clone(first.Levels), second.Levels...)
		if !same(withoutOffsets(got), withoutOffsets(want)) {
			t.Fatalf("%q and %q: %v", text, levels, got)
		}
		for i, level := range got.Levels {
			at := want.Levels[i].At
			if i >= len(first.Levels) {
				at += len(before) - opening.At - 1
			}
			if level.At != at {
				t.Fatalf("a level at %d, not %d", level.At, at)
			}
		}
	}
}

// P6.6.
func TestSorts(t *testing.T) {
	random := rand.New(rand.NewPCG(6, 6))
	for range 300 {
		hall := randomHall(random)
		first := parsed(t, written(&hall, random))
		for range 3 {
			if second := parsed(t, written(&hall, random)); !same(withoutOffsets(first), withoutOffsets(second)) {
				t.Fatalf("%v differs from %v", second, first)
			}
		}
	}
	sorts := []string{"block b { }", "area d 1 2 3 4 holds 5;", "aisle 1 2 3 4;", "pillar 5 6 7 8;", "door 9 0;"}
	want := parsed(t, "hall h stage 5 0 { level a height 2 {"+strings.Join(sorts, "")+"} }")
	for i := range 3125 {
		var order []string
		for range sorts {
			if sort := sorts[i%5]; !slices.Contains(order, sort) {
				order = append(order, sort)
			}
			i /= 5
		}
		if len(order) < len(sorts) {
			continue
		}
		got := parsed(t, "hall h stage 5 0 { level a height 2 {"+strings.Join(order, " ")+"} }")
		if !same(withoutOffsets(got), withoutOffsets(want)) {
			t.Fatalf("%v: %v", order, got)
		}
	}
}

// P1: no text makes Parse panic, and with an error there is no hall.
func TestAnyText(t *testing.T) {
	random := rand.New(rand.NewPCG(6, 7))
	for range 5000 {
		bytes := make([]byte, random.IntN(30))
		for i := range bytes {
			bytes[i] = byte(random.IntN(256))
		}
		wantAsGrammar(t, string(bytes))
		wantAsGrammar(t, "hall h stage 5 0 { "+string(bytes))
		text := ""
		for range random.IntN(30) {
			text += words[random.IntN(len(words))] + " "
		}
		wantAsGrammar(t, text)
		wantAsGrammar(t, "hall h stage 5 0 { level a height 2 { "+text)
	}
}

// P3: equal texts have equal results, each of which has memory of its own.
func TestIndependence(t *testing.T) {
	random := rand.New(rand.NewPCG(6, 8))
	for range 200 {
		hall := randomHall(random)
		text := written(&hall, random)
		first, second := parsed(t, text), parsed(t, strings.Clone(text))
		if !same(first, second) {
			t.Fatalf("%q has two results", text)
		}
		spoil(&second)
		if !same(first, hall) || !same(parsed(t, text), hall) {
			t.Fatalf("%q shares memory", text)
		}
		wrong := changed(t, text, random)
		_, err, at := plan.Parse(wrong)
		if _, err2, at2 := plan.Parse(strings.Clone(wrong)); err != err2 || at != at2 {
			t.Fatalf("%q has two errors", wrong)
		}
	}
}

// P3: no two slices of one result share memory, so that one can grow without another.
func TestSlicesOfOneResult(t *testing.T) {
	random := rand.New(rand.NewPCG(6, 9))
	for range 200 {
		hall := randomHall(random)
		got := parsed(t, written(&hall, random))
		for i := range got.Levels {
			level := &got.Levels[i]
			_ = append(level.Aisles, api.Box{X: -1})
			_ = append(level.Pillars, api.Box{X: -1})
			_ = append(level.Doors, api.Point{X: -1})
			_ = append(level.Areas, api.Area{Holds: -1})
			_ = append(level.Blocks, api.Block{At: -1})
			for j := range level.Blocks {
				block := &level.Blocks[j]
				_ = append(block.Rows, api.Row{X: -1})
				for k := range block.Rows {
					_ = append(block.Rows[k].Marks, api.Mark{Kind: -1})
				}
			}
		}
		if !same(got, hall) {
			t.Fatalf("%v shares memory", hall)
		}
	}
}

// keyWords are the words of the grammar; words are other tokens, too.
var (
	keyWords = strings.Fields("hall stage level height block area aisle pillar door holds row at seats to step gap wheel hidden beside of")
	words    = append(strings.Fields("{ } ; x h_1 0 7 9999999999 ( ) , . : = != < <= > >= + - /"), keyWords...)
)

func wantHall(t *testing.T, text string, want api.Hall) {
	t.Helper()
	hall, err, at := plan.Parse(text)
	if !same(hall, want) || err != api.OK || at != 0 {
		t.Errorf("%.200q: %v, %v, %d, not %v", text, hall, err, at, want)
	}
}

func wantError(t *testing.T, text string, wantErr api.Errno, wantAt int) {
	t.Helper()
	hall, err, at := plan.Parse(text)
	if err != wantErr || at != wantAt || err != api.OK && !reflect.DeepEqual(hall, api.Hall{}) {
		t.Errorf("%.500q: %v, %v, %d, not %v, %d", text, hall, err, at, wantErr, wantAt)
	}
}

// wantAsGrammar checks that a text is a hall, or has an error, as the chapter's grammar says.
func wantAsGrammar(t *testing.T, text string) {
	t.Helper()
	err, at := judged(text)
	wantError(t, text, err, at)
}

func lexed(t *testing.T, text string) []api.Token {
	t.Helper()
	tokens, err, _ := lexer.Lex(text)
	if err != api.OK {
		t.Fatalf("%q: %v", text, err)
	}
	return tokens
}

func parsed(t *testing.T, text string) api.Hall {
	t.Helper()
	hall, err, at := plan.Parse(text)
	if err != api.OK || at != 0 {
		t.Fatalf("%q: %v, %d", text, err, at)
	}
	return hall
}

// same compares halls; slices without elements are the same, nil or not.
func same(a, b api.Hall) bool {
	return reflect.DeepEqual(copied(a), copied(b))
}

// withoutOffsets returns a copy of a hall in which every offset is 0.
func withoutOffsets(hall api.Hall) api.Hall {
	hall = copied(hall)
	for i := range hall.Levels {
		level := &hall.Levels[i]
		level.At = 0
		for j := range level.Areas {
			level.Areas[j].At = 0
		}
		for j := range level.Blocks {
			level.Blocks[j].At = 0
			for k := range level.Blocks[j].Rows {
				level.Blocks[j].Rows[k].At = 0
			}
		}
	}
	return hall
}

// copied copies a hall with all its slices, of which the empty ones become nil.
func copied(hall api.Hall) api.Hall {
	hall.Levels = append([]api.Level(nil), hall.Levels...)
	for i := range hall.Levels {
		level := &hall.Levels[i]
		level.Areas = append([]api.Area(nil), level.Areas...)
		level.Aisles = append([]api.Box(nil), level.Aisles...)
		level.Pillars = append([]api.Box(nil), level.Pillars...)
		level.Doors = append([]api.Point(nil), level.Doors...)
		level.Blocks = append([]api.Block(nil), level.Blocks...)
		for j := range level.Blocks {
			block := &level.Blocks[j]
			block.Rows = append([]api.Row(nil), block.Rows...)
			for k := range block.Rows {
				block.Rows[k].Marks = append([]api.Mark(nil), block.Rows[k].Marks...)
			}
		}
	}
	return hall
}

// spoil changes what each slice of a hall holds.
func spoil(hall *api.Hall) {
	for i := range hall.Levels {
		level := &hall.Levels[i]
		for j := range level.Blocks {
			for k := range level.Blocks[j].Rows {
				clear(level.Blocks[j].Rows[k].Marks)
			}
			clear(level.Blocks[j].Rows)
		}
		clear(level.Blocks)
		clear(level.Areas)
		clear(level.Aisles)
		clear(level.Pillars)
		clear(level.Doors)
	}
	clear(hall.Levels)
}

func randomName(random *rand.Rand) string {
	names := append([]string{"a", "b2", "Z_", "n" + strings.Repeat("7", 23)}, keyWords...)
	return names[random.IntN(len(names))]
}

func randomNumber(random *rand.Rand) int {
	switch random.IntN(10) {
	case 0:
		return 0
	case 1:
		return random.IntN(10000000000)
	}
	return random.IntN(1000)
}

// several returns up to 3 things that a function makes.
func several[T any](random *rand.Rand, one func() T) []T {
	var list []T
	for range random.IntN(4) {
		list = append(list, one())
	}
	return list
}

// randomHall returns a hall without offsets.
func randomHall(random *rand.Rand) api.Hall {
	n := func() int { return randomNumber(random) }
	name := func() string { return randomName(random) }
	box := func() api.Box { return api.Box{X: n(), Y: n(), X2: n(), Y2: n()} }
	point := func() api.Point { return api.Point{X: n(), Y: n()} }
	mark := func() api.Mark {
		mark := api.Mark{Kind: []int{api.MarkGap, api.MarkWheel, api.MarkHidden, api.MarkBeside}[random.IntN(4)], Seat: n()}
		if mark.Kind == api.MarkBeside {
			mark.With = n()
		}
		return mark
	}
	row := func() api.Row {
		return api.Row{Name: name(), X: n(), Y: n(), From: n(), To: n(), Step: n(), Marks: several(random, mark)}
	}
	block := func() api.Block { return api.Block{Name: name(), Rows: several(random, row)} }
	area := func() api.Area { return api.Area{Name: name(), Box: box(), Holds: n()} }
	level := func() api.Level {
		return api.Level{Name: name(), Height: n(), Blocks: several(random, block), Areas: several(random, area), Aisles: several(random, box), Pillars: several(random, box), Doors: several(random, point)}
	}
	return api.Hall{Name: name(), Stage: point(), Levels: several(random, level)}
}

func randomGap(random *rand.Rand) string {
	gaps := []string{" ", "  ", "\n", "\t", "# }\n", " # level b height 7 { }\n ", "#\n#!\n"}
	return gaps[random.IntN(len(gaps))]
}

// A writer writes a text of tokens with gaps between them.
type writer struct {
	text   string
	random *rand.Rand
}

// add writes words and numbers, and returns the offset of the first one.
func (w *writer) add(parts ...any) int {
	at := -1
	for _, part := range parts {
		w.text += randomGap(w.random)
		if at < 0 {
			at = len(w.text)
		}
		switch part := part.(type) {
		case string:
			w.text += part
		case int:
			if part < 1000 && w.random.IntN(8) == 0 {
				w.text += "00"
			}
			w.text += strconv.Itoa(part)
		}
	}
	return at
}

// written writes a hall with its items in a random order that keeps that of each sort, and notes the offsets in the hall.
func written(hall *api.Hall, random *rand.Rand) string {
	w := &writer{random: random}
	w.add("hall", hall.Name, "stage", hall.Stage.X, hall.Stage.Y, "{")
	for i := range hall.Levels {
		level := &hall.Levels[i]
		level.At = w.add("level", level.Name, "height", level.Height, "{")
		w.addItems(level)
		w.add("}")
	}
	w.add("}")
	return w.text
}

func (w *writer) addItems(level *api.Level) {
	var order []int
	for sort, n := range []int{len(level.Blocks), len(level.Areas), len(level.Aisles), len(level.Pillars), len(level.Doors)} {
		order = append(order, slices.Repeat([]int{sort}, n)...)
	}
	w.random.Shuffle(len(order), func(i, j int) { order[i], order[j] = order[j], order[i] })
	var next [5]int
	for _, sort := range order {
		i := next[sort]
		next[sort]++
		switch sort {
		case 0:
			w.addBlock(&level.Blocks[i])
		case 1:
			area := &level.Areas[i]
			area.At = w.add("area", area.Name, area.Box.X, area.Box.Y, area.Box.X2, area.Box.Y2, "holds", area.Holds, ";")
		case 2:
			w.addBox("aisle", level.Aisles[i])
		case 3:
			w.addBox("pillar", level.Pillars[i])
		case 4:
			w.add("door", level.Doors[i].X, level.Doors[i].Y, ";")
		}
	}
}

func (w *writer) addBox(word string, box api.Box) {
	w.add(word, box.X, box.Y, box.X2, box.Y2, ";")
}

func (w *writer) addBlock(block *api.Block) {
	block.At = w.add("block", block.Name, "{")
	for i := range block.Rows {
		row := &block.Rows[i]
		row.At = w.add("row", row.Name, "at", row.X, row.Y, "seats", row.From, "to", row.To, "step", row.Step)
		for _, mark := range row.Marks {
			w.add(map[int]string{api.MarkGap: "gap", api.MarkWheel: "wheel", api.MarkHidden: "hidden", api.MarkBeside: "beside"}[mark.Kind], mark.Seat)
			if mark.Kind == api.MarkBeside {
				w.add("of", mark.With)
			}
		}
		w.add(";")
	}
	w.add("}")
}

// changed cuts a text off after a token, or changes, adds or takes away some tokens.
func changed(t *testing.T, text string, random *rand.Rand) string {
	t.Helper()
	for range 1 + random.IntN(2) {
		tokens := lexed(t, text)
		if len(tokens) == 0 {
			return text
		}
		token := tokens[random.IntN(len(tokens))]
		before, after := text[:token.At], text[token.At+len(token.Text):]
		other := words[random.IntN(len(words))]
		switch random.IntN(5) {
		case 0:
			text = before + token.Text
		case 1:
			text = before + after
		case 2:
			text = before + other + after
		case 3:
			text = before + other + " " + token.Text + after
		case 4:
			text = before + token.Text + " " + token.Text + after
		}
	}
	return text
}

// grammar is the chapter's.
const grammar = `
hall:  "hall" NAME "stage" INT INT "{" { level } "}"
level: "level" NAME "height" INT "{" { item } "}"
item:  "block" NAME "{" { row } "}"
     | "area" NAME INT INT INT INT "holds" INT ";"
     | "aisle" INT INT INT INT ";"
     | "pillar" INT INT INT INT ";"
     | "door" INT INT ";"
row:   "row" NAME "at" INT INT "seats" INT "to" INT "step" INT
       { "gap" INT | "wheel" INT | "hidden" INT | "beside" INT "of" INT } ";"
`

// A judge tries all ways in which tokens can be read by the grammar.
type judge struct {
	tokens []api.Token
	far    int             // the last token that was not as some way required it
	rules  map[string]form // of which forms ask here, as the variable is made of them
}

// A form is a part of the grammar: from the index of a token, it finds where it can end.
type form func(j *judge, from int) []int

// rules are the forms of the grammar by their names.
var rules = readGrammar()

// judged returns the error of a text and its offset by trying all ways to read it.
func judged(text string) (api.Errno, int) {
	tokens, err, at := lexer.Lex(text)
	if err != api.OK {
		return err, at
	}
	j := &judge{tokens: tokens, far: -1, rules: rules}
	for _, end := range j.rules["hall"](j, 0) {
		if end == len(tokens) {
			return api.OK, 0
		}
		j.far = max(j.far, end)
	}
	if j.far == len(tokens) {
		return api.ErrEnd, len(text)
	}
	return api.ErrSyntax, tokens[j.far].At
}

func readGrammar() map[string]form {
	parts := regexp.MustCompile(`"[^"]*"|[A-Za-z]+:?|[{}|]`).FindAllString(grammar, -1)
	rules := map[string]form{}
	for len(parts) > 0 {
		name := strings.TrimSuffix(parts[0], ":")
		parts = parts[1:]
		rules[name], parts = readChoice(parts)
	}
	return rules
}

// readChoice reads alternatives up to a brace, the next rule or the end.
func readChoice(parts []string) (form, []string) {
	var alternatives, sequence []form
	for len(parts) > 0 && parts[0] != "}" && !strings.HasSuffix(parts[0], ":") {
		part := parts[0]
		parts = parts[1:]
		switch part {
		case "|":
			alternatives = append(alternatives, inSequence(sequence))
			sequence = nil
		case "{":
			var inner form
			inner, parts = readChoice(parts)
			sequence = append(sequence, repeated(inner))
			parts = parts[1:]
		default:
			sequence = append(sequence, single(part))
		}
	}
	alternatives = append(alternatives, inSequence(sequence))
	return func(j *judge, from int) []int {
		var ends []int
		for _, alternative := range alternatives {
			ends = append(ends, alternative(j, from)...)
		}
		return ends
	}, parts
}

func inSequence(forms []form) form {
	return func(j *judge, from int) []int {
		ends := []int{from}
		for _, next := range forms {
			var further []int
			for _, end := range ends {
				further = append(further, next(j, end)...)
			}
			ends = further
		}
		return ends
	}
}

func repeated(inner form) form {
	return func(j *judge, from int) []int {
		ends := []int{from}
		for i := 0; i < len(ends); i++ {
			for _, end := range inner(j, ends[i]) {
				if !slices.Contains(ends, end) {
					ends = append(ends, end)
				}
			}
		}
		return ends
	}
}

func single(part string) form {
	fits := func(token api.Token) bool { return strconv.Quote(token.Text) == part }
	switch part {
	case "NAME":
		fits = func(token api.Token) bool { return token.Kind == api.TokName }
	case "INT":
		fits = func(token api.Token) bool { return token.Kind == api.TokNumber }
	case "level", "item", "row":
		return func(j *judge, from int) []int { return j.rules[part](j, from) }
	}
	return func(j *judge, from int) []int {
		if from < len(j.tokens) && fits(j.tokens[from]) {
			return []int{from + 1}
		}
		j.far = max(j.far, from)
		return nil
	}
}
