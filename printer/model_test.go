package printer_test

import (
	"fmt"
	"math/rand/v2"
	"reflect"
	"slices"
	"strings"

	"foyer/api"
)

// The words of marks, rules and tests by their kinds, as the chapters write them.
var (
	markWords = map[int]string{api.MarkGap: "gap", api.MarkWheel: "wheel", api.MarkHidden: "hidden", api.MarkBeside: "beside"}
	ruleWords = map[int]string{api.RuleAllow: "allow", api.RuleDeny: "deny", api.RulePrice: "price", api.RuleResale: "resale", api.RuleRefund: "refund", api.RuleTogether: "together", api.RuleSingle: "single"}
	opWords   = map[int]string{api.OpEqual: "=", api.OpUnlike: "!=", api.OpLess: "<", api.OpAtMost: "<=", api.OpMore: ">", api.OpAtLeast: ">="}
	keyWords  = strings.Fields("hall stage level height block row at seats to step gap wheel hidden beside of area holds aisle pillar door allow limit deny price fee tax resale cap share refund together single when or and")
)

// textOfHall writes a hall as the chapter's table of lines says.
func textOfHall(h api.Hall) string {
	var lines []string
	add := func(tabs int, format string, parts ...any) {
		lines = append(lines, strings.Repeat("\t", tabs)+fmt.Sprintf(format, parts...)+"\n")
	}
	add(0, "hall %s stage %d %d {", h.Name, h.Stage.X, h.Stage.Y)
	for _, l := range h.Levels {
		add(1, "level %s height %d {", l.Name, l.Height)
		for _, b := range l.Blocks {
			add(2, "block %s {", b.Name)
			for _, r := range b.Rows {
				add(3, "row %s at %d %d seats %d to %d step %d%s;", r.Name, r.X, r.Y, r.From, r.To, r.Step, textOfMarks(r.Marks))
			}
			add(2, "}")
		}
		for _, a := range l.Areas {
			add(2, "area %s %d %d %d %d holds %d;", a.Name, a.Box.X, a.Box.Y, a.Box.X2, a.Box.Y2, a.Holds)
		}
		for _, b := range l.Aisles {
			add(2, "aisle %d %d %d %d;", b.X, b.Y, b.X2, b.Y2)
		}
		for _, b := range l.Pillars {
			add(2, "pillar %d %d %d %d;", b.X, b.Y, b.X2, b.Y2)
		}
		for _, d := range l.Doors {
			add(2, "door %d %d;", d.X, d.Y)
		}
		add(1, "}")
	}
	add(0, "}")
	return strings.Join(lines, "")
}

func textOfMarks(marks []api.Mark) string {
	var parts []string
	for _, m := range marks {
		part := fmt.Sprintf(" %s %d", markWords[m.Kind], m.Seat)
		if m.Kind == api.MarkBeside {
			part += fmt.Sprintf(" of %d", m.With)
		}
		parts = append(parts, part)
	}
	return strings.Join(parts, "")
}

// textOfRules writes rules as the chapter's table of words says.
func textOfRules(r api.Rules) string {
	var lines []string
	for _, item := range r.Items {
		ratioIfAny := func(word string, ratio api.Ratio) string {
			if ratio.Num == 0 && ratio.Den == 1 {
				return ""
			}
			return fmt.Sprintf(" %s %d/%d", word, ratio.Num, ratio.Den)
		}
		line := fmt.Sprintf("%s %s", ruleWords[item.Kind], item.Name)
		switch item.Kind {
		case api.RuleAllow:
			if item.N != 0 {
				line += fmt.Sprintf(" limit %d", item.N)
			}
		case api.RulePrice:
			line += fmt.Sprintf(" %d%s%s", item.N, ratioIfAny("fee", item.R), ratioIfAny("tax", item.S))
		case api.RuleResale:
			line += fmt.Sprintf(" cap %d/%d share %d/%d", item.R.Num, item.R.Den, item.S.Num, item.S.Den)
		case api.RuleRefund:
			line += fmt.Sprintf(" %d/%d", item.R.Num, item.R.Den)
		}
		var lists []string
		for _, tests := range item.When {
			var words []string
			for _, test := range tests {
				value := test.Name
				if value == "" {
					value = fmt.Sprint(test.N)
				}
				words = append(words, test.Attr+" "+opWords[test.Op]+" "+value)
			}
			lists = append(lists, strings.Join(words, " and "))
		}
		if len(lists) > 0 {
			line += " when " + strings.Join(lists, " or ")
		}
		lines = append(lines, line+";\n")
	}
	return strings.Join(lines, "")
}

// A leaf is a number or a text in a hall or in rules, and the name of its field.
type leaf struct {
	field string
	value reflect.Value
}

// leavesOf returns the numbers and texts of what a pointer points to, which can be changed through them.
func leavesOf(pointer any) []leaf {
	return leavesIn("", reflect.ValueOf(pointer).Elem())
}

func leavesIn(field string, value reflect.Value) []leaf {
	var leaves []leaf
	switch value.Kind() {
	case reflect.Struct:
		for i := range value.NumField() {
			leaves = append(leaves, leavesIn(value.Type().Field(i).Name, value.Field(i))...)
		}
	case reflect.Slice:
		for i := range value.Len() {
			leaves = append(leaves, leavesIn(field, value.Index(i))...)
		}
	default:
		leaves = append(leaves, leaf{field, value})
	}
	return leaves
}

// plain returns a copy of a hall or of rules that shares no memory with it, in which every offset is 0 and every empty slice nil.
func plain[T any](thing T) T {
	same := copied(thing)
	for _, leaf := range leavesOf(&same) {
		if leaf.field == "At" {
			leaf.value.SetInt(0)
		}
	}
	return same
}

// copied returns a copy of a hall or of rules that shares no memory with it, in which every empty slice is nil.
func copied[T any](thing T) T {
	var other T
	copyInto(reflect.ValueOf(&other).Elem(), reflect.ValueOf(thing))
	return other
}

func copyInto(to, from reflect.Value) {
	switch from.Kind() {
	case reflect.Struct:
		for i := range from.NumField() {
			copyInto(to.Field(i), from.Field(i))
		}
	case reflect.Slice:
		for i := range from.Len() {
			to.Set(reflect.Append(to, reflect.Zero(from.Type().Elem())))
			copyInto(to.Index(i), from.Index(i))
		}
	default:
		to.Set(from)
	}
}

func randomName(random *rand.Rand) string {
	names := append([]string{"a", "b2", "Z_", "n" + strings.Repeat("7", 23)}, keyWords...)
	return names[random.IntN(len(names))]
}

func randomNumber(random *rand.Rand) int {
	switch random.IntN(10) {
	case 0:
		return random.IntN(2)
	case 1:
		return random.IntN(10000000000)
	}
	return random.IntN(1000)
}

// several returns as many things that a function makes, from some number of them up to 3.
func several[T any](random *rand.Rand, least int, one func() T) []T {
	var list []T
	for range least + random.IntN(4-least) {
		list = append(list, one())
	}
	return list
}

// randomHall returns a hall that can be written; its offsets are random, too.
func randomHall(random *rand.Rand) api.Hall {
	n := func() int { return randomNumber(random) }
	name := func() string { return randomName(random) }
	box := func() api.Box { return api.Box{X: n(), Y: n(), X2: n(), Y2: n()} }
	point := func() api.Point { return api.Point{X: n(), Y: n()} }
	mark := func() api.Mark {
		mark := api.Mark{Kind: api.MarkGap + random.IntN(len(markWords)), Seat: n()}
		if mark.Kind == api.MarkBeside {
			mark.With = n()
		}
		return mark
	}
	row := func() api.Row {
		return api.Row{Name: name(), X: n(), Y: n(), From: n(), To: n(), Step: n(), Marks: several(random, 0, mark), At: n()}
	}
	block := func() api.Block { return api.Block{Name: name(), Rows: several(random, 0, row), At: n()} }
	area := func() api.Area { return api.Area{Name: name(), Box: box(), Holds: n(), At: n()} }
	level := func() api.Level {
		return api.Level{Name: name(), Height: n(), Blocks: several(random, 0, block), Areas: several(random, 0, area), Aisles: several(random, 0, box), Pillars: several(random, 0, box), Doors: several(random, 0, point), At: n()}
	}
	return api.Hall{Name: name(), Stage: point(), Levels: several(random, 0, level)}
}

// randomRules returns rules that can be written; their offsets are random, too.
func randomRules(random *rand.Rand) api.Rules {
	test := func() api.Test {
		test := api.Test{Attr: randomName(random), Op: api.OpEqual + random.IntN(len(opWords)), At: randomNumber(random)}
		switch random.IntN(3) {
		case 0:
			test.N = randomNumber(random)
		case 1:
			test.Name = randomName(random)
		case 2:
			test.Name = randomName(random) + "." + randomName(random)
		}
		return test
	}
	tests := func() []api.Test { return several(random, 1, test) }
	return api.Rules{Items: several(random, 0, func() api.Item {
		item := randomItem(random)
		item.When = several(random, 0, tests)
		return item
	})}
}

// randomItem returns a rule without conditions.
func randomItem(random *rand.Rand) api.Item {
	n := func() int { return randomNumber(random) }
	ratio := func() api.Ratio {
		ratios := []api.Ratio{{Num: 0, Den: 1}, {Num: 1, Den: 1}, {Num: 0, Den: 0}, {Num: n(), Den: n()}}
		return ratios[random.IntN(len(ratios))]
	}
	item := api.Item{Kind: api.RuleAllow + random.IntN(len(ruleWords)), Name: randomName(random), At: n()}
	if slices.Contains(fieldsOf[item.Kind], "N") {
		item.N = n()
	}
	if slices.Contains(fieldsOf[item.Kind], "R") {
		item.R = ratio()
	}
	if slices.Contains(fieldsOf[item.Kind], "S") {
		item.S = ratio()
	}
	return item
}

// fieldsOf are the fields that the kinds of rules have.
var fieldsOf = map[int][]string{
	api.RuleAllow:  {"N"},
	api.RulePrice:  {"N", "R", "S"},
	api.RuleResale: {"R", "S"},
	api.RuleRefund: {"R"},
}
