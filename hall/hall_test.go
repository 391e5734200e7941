package hall_test

import (
	"math/rand/v2"
	"reflect"
	"slices"
	"strconv"
	"strings"
	"sync"
	"testing"

	"foyer/api"
	"foyer/hall"
	"foyer/plan"
	"foyer/sight"
)

func point(x, y int) api.Point { return api.Point{X: x, Y: y} }

func box(x, y, x2, y2 int) api.Box { return api.Box{X: x, Y: y, X2: x2, Y2: y2} }

func gap(seat int) api.Mark { return api.Mark{Kind: api.MarkGap, Seat: seat} }

func wheel(seat int) api.Mark { return api.Mark{Kind: api.MarkWheel, Seat: seat} }

func hidden(seat int) api.Mark { return api.Mark{Kind: api.MarkHidden, Seat: seat} }

func beside(seat, with int) api.Mark { return api.Mark{Kind: api.MarkBeside, Seat: seat, With: with} }

// rowAt returns a row with a letter as its name and offset.
func rowAt(letter rune, x, y, from, to, step int, marks ...api.Mark) api.Row {
	return api.Row{Name: string(letter), X: x, Y: y, From: from, To: to, Step: step, Marks: marks, At: int(letter)}
}

func areaAt(letter rune, x, y, x2, y2, holds int) api.Area {
	return api.Area{Name: string(letter), Box: box(x, y, x2, y2), Holds: holds, At: int(letter)}
}

// chapterLevel returns the level of the chapter's examples, with some rows in its block.
func chapterLevel(rows ...api.Row) api.Level {
	return api.Level{
		Name: "L", At: 'L',
		Aisles: []api.Box{box(0, 0, 1, 9)},
		Doors:  []api.Point{point(0, 0)},
		Blocks: []api.Block{{Name: "B", At: 'B', Rows: rows}},
	}
}

func chapterHall(rows ...api.Row) api.Hall { return hallOf(chapterLevel(rows...)) }

func hallOf(levels ...api.Level) api.Hall { return api.Hall{Name: "H", Levels: levels} }

// chapterRow returns the row of the chapter's examples.
func chapterRow(marks ...api.Mark) api.Row { return rowAt('a', 3, 5, 1, 3, 2, marks...) }

// P10.1, J2.
func TestChapterExamples(t *testing.T) {
	wantPlaces(t, chapterHall(chapterRow()), []api.Place{
		{Seat: 1, X: 3, Y: 5, With: -1}, {Seat: 2, X: 5, Y: 5, With: -1}, {Seat: 3, X: 7, Y: 5, With: -1},
	})
	wantPlaces(t, chapterHall(chapterRow(gap(2))), []api.Place{
		{Seat: 1, X: 3, Y: 5, With: -1}, {Seat: 3, X: 7, Y: 5, With: -1},
	})
	wantPlaces(t, chapterHall(chapterRow(wheel(1), beside(2, 1))), []api.Place{
		{Kind: 1, Seat: 1, X: 3, Y: 5, With: 1}, {Kind: 2, Seat: 2, X: 5, Y: 5, With: 0}, {Seat: 3, X: 7, Y: 5, With: -1},
	})
	wantFaults(t, chapterHall(chapterRow(), rowAt('b', 5, 5, 1, 1, 2)), fault(api.ErrOverlap, 'b', 'a'), fault(api.ErrReach, 'b', -1))
	closed := chapterHall(chapterRow())
	closed.Levels[0].Doors = nil
	wantFaults(t, closed, fault(api.ErrReach, 'a', -1))
	wantFaults(t, chapterHall(chapterRow(beside(2, 1))), fault(api.ErrNone, 'a', -1))
}

// P10.1, J2: plans without things, or with few.
func TestSmallPlans(t *testing.T) {
	wantPlaces(t, api.Hall{}, nil)
	wantPlaces(t, hallOf(api.Level{}), nil)
	wantPlaces(t, chapterHall(), nil)
	wantPlaces(t, hallOf(api.Level{Blocks: []api.Block{{}}}), nil)
	wantPlaces(t, chapterHall(chapterRow(gap(1), gap(2), gap(3))), nil)
	h := hallOf(chapterLevel())
	h.Levels[0].Areas = []api.Area{areaAt('x', 1, 9, 4, 10, 2)}
	wantPlaces(t, h, []api.Place{
		{Kind: 3, Block: 1, Row: -1, Seat: 1, X: 2, Y: 9, With: -1}, {Kind: 3, Block: 1, Row: -1, Seat: 2, X: 2, Y: 9, With: -1},
	})
}

// P10.1, J2: all that a place has, with several levels, blocks, rows and areas.
func TestPlaces(t *testing.T) {
	text := `hall h stage 100 0 {
		level floor height 0 {
			door 0 0; aisle 0 0 9 99; pillar 90 2 110 2;
			block left { row a at 19 5 seats 11 to 14 step 10 wheel 12 beside 13 of 12 gap 11 beside 14 of 12; row b at 10 6 seats 1 to 1 step 1; }
			area pit 5 50 8 53 holds 2;
			block right { row a at 12 7 seats 9999 to 10000 step 3 hidden 10000; }
		}
		level top height 3000 {
			aisle 500 0 500 9; door 500 4;
			area stand 490 9 500 20 holds 1;
			block left { row z at 496 4 seats 4 to 4 step 4 hidden 4; }
		}
	}`
	h, err, _ := plan.Parse(text)
	if err != api.OK {
		t.Fatalf("the plan has the error %d", err)
	}
	want := []api.Place{
		{Kind: api.PlaceWheel, Seat: 12, X: 29, Y: 5, With: 1},
		{Kind: api.PlaceBeside, Seat: 13, X: 39, Y: 5, With: 0},
		{Kind: api.PlaceBeside, Seat: 14, X: 49, Y: 5, With: 0},
		{Row: 1, Seat: 1, X: 10, Y: 6, With: -1},
		{Block: 1, Seat: 9999, X: 12, Y: 7, With: -1},
		{Block: 1, Seat: 10000, X: 15, Y: 7, With: -1},
		{Kind: api.PlaceStand, Block: 2, Row: -1, Seat: 1, X: 6, Y: 51, With: -1},
		{Kind: api.PlaceStand, Block: 2, Row: -1, Seat: 2, X: 6, Y: 51, With: -1},
		{Level: 1, Seat: 4, X: 496, Y: 4, With: -1},
		{Kind: api.PlaceStand, Level: 1, Block: 1, Row: -1, Seat: 1, X: 495, Y: 14, With: -1},
	}
	for i, view := range []int{0, 0, 0, 0, 0, 2, 1, 1, 2, 2} {
		want[i].View = view
	}
	wantPlaces(t, h, want)
}

// P10.1, J2: a restricted view is 2 or worse, and other marks do not matter.
func TestViews(t *testing.T) {
	at := func(x, pillars int, mark ...api.Mark) int {
		h := hallOf(api.Level{Aisles: []api.Box{box(x-1, 9, x-1, 9)}, Doors: []api.Point{point(x-1, 9)}, Blocks: []api.Block{{Rows: []api.Row{rowAt('a', x, 9, 7, 8, 1, mark...)}}}})
		for range pillars {
			h.Levels[0].Pillars = append(h.Levels[0].Pillars, box(0, 2, 9000, 2))
		}
		places, faults := hall.Build(h)
		if len(places) != 2 || faults != nil {
			t.Fatalf("the hall has the places %v and the faults %v", places, faults)
		}
		return places[0].View
	}
	for _, test := range []struct{ x, pillars, plain, marked int }{
		{500, 0, 0, 2}, {2000, 0, 1, 2}, {5000, 0, 2, 2}, {500, 1, 1, 2}, {500, 2, 2, 2}, {2000, 1, 2, 2}, {5000, 1, 3, 3}, {500, 3, 3, 3}, {500, 4, 3, 3},
	} {
		for _, marks := range [][]api.Mark{nil, {wheel(7)}, {wheel(8), beside(7, 8)}, {hidden(8)}} {
			if got := at(test.x, test.pillars, marks...); got != test.plain {
				t.Errorf("at %d behind %d pillars with the marks %v the view is %d, not %d", test.x, test.pillars, marks, got, test.plain)
			}
		}
		if got := at(test.x, test.pillars, hidden(7)); got != test.marked {
			t.Errorf("at %d behind %d pillars with the mark hidden the view is %d, not %d", test.x, test.pillars, got, test.marked)
		}
	}
}

// P10.1, J2: views are those of the level that a place is on.
func TestViewsOfLevels(t *testing.T) {
	h := api.Hall{}
	for i, height := range []int{0, 2000, 5000, 100} {
		l := chapterLevel(chapterRow())
		l.Name, l.Height = strconv.Itoa(i), height
		l.Areas = []api.Area{areaAt('x', 0, 8, 1, 9, 1)}
		h.Levels = append(h.Levels, l)
	}
	h.Levels[3].Pillars = []api.Box{box(0, 2, 9, 2)}
	places, _ := hall.Build(h)
	var got []int
	for _, p := range places {
		got = append(got, p.View)
	}
	if want := []int{0, 0, 0, 0, 1, 1, 1, 1, 2, 2, 2, 2, 1, 1, 1, 1}; !slices.Equal(got, want) {
		t.Errorf("the views are %v, not %v", got, want)
	}
}

// P10.1, J2: the middle of an area is rounded down.
func TestMiddleOfAreas(t *testing.T) {
	for _, test := range []struct {
		box  api.Box
		x, y int
	}{
		{box(0, 0, 0, 0), 0, 0}, {box(0, 0, 1, 1), 0, 0}, {box(0, 0, 2, 3), 1, 1}, {box(1, 9, 2, 10), 1, 9}, {box(1, 8, 4, 10), 2, 9}, {box(0, 0, 10000, 9999), 5000, 4999}, {box(1, 0, 10000, 10000), 5000, 5000},
	} {
		h := chapterHall()
		h.Levels[0].Areas = []api.Area{{Name: "x", Box: test.box, Holds: 1}}
		wantPlaces(t, h, []api.Place{{Kind: 3, Block: 1, Row: -1, Seat: 1, X: test.x, Y: test.y, View: sight.View(h, 0, point(test.x, test.y)), With: -1}})
	}
}

// P10.1, J2, P10.3: a wheelchair place has the first companion's seat of the row, in whatever order the marks are.
func TestCompanions(t *testing.T) {
	for _, test := range []struct {
		marks []api.Mark
		with  []int
	}{
		{[]api.Mark{wheel(2)}, []int{-1, -1, -1, -1, -1}},
		{[]api.Mark{wheel(2), beside(3, 2)}, []int{-1, 2, 1, -1, -1}},
		{[]api.Mark{beside(3, 2), wheel(2)}, []int{-1, 2, 1, -1, -1}},
		{[]api.Mark{wheel(2), beside(1, 2), beside(3, 2)}, []int{1, 0, 1, -1, -1}},
		{[]api.Mark{wheel(2), beside(3, 2), beside(1, 2)}, []int{1, 0, 1, -1, -1}},
		{[]api.Mark{beside(5, 1), beside(4, 1), wheel(1)}, []int{3, -1, -1, 0, 0}},
		{[]api.Mark{wheel(5), wheel(1), beside(4, 5), beside(2, 1)}, []int{1, 0, -1, 4, 3}},
		{[]api.Mark{wheel(5), wheel(1), beside(4, 1), beside(2, 5)}, []int{3, 4, -1, 0, 1}},
		{[]api.Mark{gap(1), wheel(3), beside(5, 3), gap(2)}, []int{2, -1, 0}},
		{[]api.Mark{gap(4), wheel(3), beside(5, 3), hidden(1)}, []int{-1, -1, 3, 2}},
		{[]api.Mark{{Kind: api.MarkHidden, Seat: 1, With: 2}, {Kind: api.MarkWheel, Seat: 2, With: 4}, {Kind: api.MarkGap, Seat: 3, With: 9}, {Kind: api.MarkWheel, Seat: 4, With: -5}}, []int{-1, -1, -1, -1}},
	} {
		for _, before := range []int{0, 1, 3} {
			rows := []api.Row{rowAt('a', 3, 4, 1, 5, 2, test.marks...)}
			if before > 0 {
				rows = slices.Insert(rows, 0, rowAt('b', 3, 3, 2, 1+before, 2))
			}
			places, faults := hall.Build(chapterHall(rows...))
			var with []int
			for _, p := range places[before:] {
				if p.With >= 0 {
					p.With -= before
				}
				with = append(with, p.With)
			}
			if !slices.Equal(with, test.with) || faults != nil {
				t.Errorf("with the marks %v, behind %d places, With is %v, not %v; the faults are %v", test.marks, before, with, test.with, faults)
			}
		}
	}
}

// P10.1, J1.
func TestReached(t *testing.T) {
	for _, test := range []struct {
		name   string
		aisles []api.Box
		doors  []api.Point
		want   string
	}{
		{"nothing", nil, nil, ""},
		{"no door", []api.Box{box(0, 0, 9, 9), box(5, 5, 6, 6)}, nil, "00"},
		{"no aisle", nil, []api.Point{point(0, 0)}, ""},
		{"a door inside", []api.Box{box(0, 0, 9, 9)}, []api.Point{point(4, 5)}, "1"},
		{"a door at a corner", []api.Box{box(1, 1, 9, 9), box(11, 1, 12, 9)}, []api.Point{point(9, 9)}, "10"},
		{"a door at another corner", []api.Box{box(1, 1, 9, 9)}, []api.Point{point(1, 9)}, "1"},
		{"a door beside", []api.Box{box(1, 1, 9, 9)}, []api.Point{point(10, 5), point(0, 5), point(5, 0), point(5, 10)}, "0"},
		{"aisles with a common corner", []api.Box{box(5, 5, 9, 9), box(0, 0, 5, 5)}, []api.Point{point(0, 0)}, "11"},
		{"aisles with a common side", []api.Box{box(0, 0, 5, 5), box(5, 0, 9, 5)}, []api.Point{point(0, 0)}, "11"},
		{"aisles that nearly meet", []api.Box{box(0, 0, 5, 5), box(6, 0, 9, 5), box(0, 6, 5, 9)}, []api.Point{point(0, 0)}, "100"},
		{"aisles that are points", []api.Box{box(5, 5, 5, 5), box(5, 5, 5, 5), box(5, 6, 5, 6)}, []api.Point{point(5, 5)}, "110"},
		{"aisles that cross", []api.Box{box(4, 0, 5, 9), box(0, 4, 9, 5)}, []api.Point{point(4, 9)}, "11"},
		{"an aisle in an aisle", []api.Box{box(0, 0, 9, 9), box(4, 4, 5, 5)}, []api.Point{point(9, 0)}, "11"},
		{"an aisle around an aisle", []api.Box{box(0, 0, 9, 9), box(4, 4, 5, 5)}, []api.Point{point(4, 4)}, "11"},
		{"a chain backwards", []api.Box{box(9, 0, 12, 0), box(6, 0, 9, 0), box(3, 0, 6, 0), box(0, 0, 3, 0)}, []api.Point{point(0, 0)}, "1111"},
		{"a chain with a hole", []api.Box{box(10, 0, 12, 0), box(6, 0, 9, 0), box(3, 0, 6, 0), box(0, 0, 3, 0)}, []api.Point{point(0, 0)}, "0111"},
		{"a chain from its middle", []api.Box{box(9, 0, 12, 0), box(6, 0, 9, 0), box(3, 0, 6, 0), box(0, 0, 3, 0)}, []api.Point{point(7, 0)}, "1111"},
		{"a circle", []api.Box{box(0, 0, 9, 0), box(9, 0, 9, 9), box(0, 9, 9, 9), box(0, 0, 0, 9), box(4, 4, 5, 5)}, []api.Point{point(9, 9)}, "11110"},
		{"two doors", []api.Box{box(0, 0, 1, 1), box(3, 3, 4, 4), box(6, 6, 7, 7)}, []api.Point{point(7, 7), point(0, 0)}, "101"},
		{"empty aisles", []api.Box{box(5, 0, 4, 9), box(0, 5, 9, 4), box(0, 0, 9, 9), box(9, 9, 0, 0)}, []api.Point{point(5, 5), point(4, 4)}, "0010"},
		{"empty aisles between others", []api.Box{box(0, 0, 3, 9), box(6, 0, 2, 9), box(5, 0, 9, 9)}, []api.Point{point(0, 0)}, "100"},
		{"no coordinates", []api.Box{box(-9, -9, -5, -5), box(-5, -5, 20000, 4), box(20000, 4, 1<<62, 1<<62), box(-1<<63, -1<<63, -9, -9)}, []api.Point{point(-7, -6)}, "1111"},
		{"no coordinates beside", []api.Box{box(-9, -9, -5, -5), box(-4, -5, 20000, 4)}, []api.Point{point(-10, -6), point(20000, -6)}, "00"},
	} {
		l := api.Level{Aisles: test.aisles, Doors: test.doors}
		var got strings.Builder
		for _, reached := range hall.Reached(l) {
			got.WriteString(map[bool]string{true: "1", false: "0"}[reached])
		}
		if got.String() != test.want {
			t.Errorf("%s: the aisles %v with the doors %v are reached as %s, not %s", test.name, test.aisles, test.doors, got.String(), test.want)
		}
	}
}

// P10.1, J1: also more aisles than a plan may have, and what else a level has does not matter.
func TestReachedOfManyAisles(t *testing.T) {
	var l api.Level
	for i := range 3000 {
		l.Aisles = append(l.Aisles, box(2999-i, 0, 3000-i, 0))
	}
	l.Aisles[1234] = box(1, 0, 0, 0)
	l.Doors = []api.Point{point(0, 0)}
	l.Pillars = []api.Box{box(0, 0, 3000, 3000)}
	l.Height = -1
	for i, reached := range hall.Reached(l) {
		if reached != (i > 1234) {
			t.Fatalf("the aisle %d is reached: %t", i, reached)
		}
	}
}

// P10.1, J1, P10.4.
func TestReachedOfRandomLevels(t *testing.T) {
	random := rand.New(rand.NewPCG(10, 1))
	some := 0
	for range 50000 {
		l := randomLevel(random)
		got, want := hall.Reached(l), modelReached(l)
		if !slices.Equal(got, want) {
			t.Fatalf("the aisles %v with the doors %v are reached as %v, not %v", l.Aisles, l.Doors, got, want)
		}
		if slices.Contains(got, true) && slices.Contains(got, false) {
			some++
		}
	}
	if some < 5000 {
		t.Errorf("only %d levels have aisles that are reached, and others", some)
	}
}

// P10.4: the reached aisles are the least set with those that have a door, and with an aisle all that it meets.
func TestReachedIsLeast(t *testing.T) {
	random := rand.New(rand.NewPCG(10, 2))
	for range 2000 {
		l := randomLevel(random)
		if len(l.Aisles) > 7 {
			l.Aisles = l.Aisles[:7]
		}
		reached := hall.Reached(l)
		set := 0
		least := -1
		for i := range l.Aisles {
			if reached[i] {
				set |= 1 << i
			}
		}
		for other := range 1 << len(l.Aisles) {
			if isClosed(l, other) {
				least &= other
			}
		}
		if !isClosed(l, set) || set != least&(1<<len(l.Aisles)-1) {
			t.Fatalf("the aisles %v with the doors %v are reached as %v: that is not the least set", l.Aisles, l.Doors, reached)
		}
	}
}

// isClosed reports whether a set of aisles has those with a door, and with an aisle all that it meets.
func isClosed(l api.Level, set int) bool {
	for i, aisle := range l.Aisles {
		needed := slices.ContainsFunc(l.Doors, func(door api.Point) bool { return contains(aisle, door) })
		for j, other := range l.Aisles {
			needed = needed || set>>j&1 > 0 && touch(aisle, other)
		}
		if needed && set>>i&1 == 0 {
			return false
		}
	}
	return true
}

// P10.4.
func TestFurtherDoors(t *testing.T) {
	random := rand.New(rand.NewPCG(10, 3))
	for range 20000 {
		l := randomLevel(random)
		before := hall.Reached(l)
		l.Doors = slices.Insert(l.Doors, random.IntN(len(l.Doors)+1), point(random.IntN(30)-1, random.IntN(30)-1))
		for i, reached := range hall.Reached(l) {
			if before[i] && !reached {
				t.Fatalf("with a further door the aisle %d of %v with the doors %v is not reached any more", i, l.Aisles, l.Doors)
			}
		}
	}
}

// P10.4.
func TestEachPlaceCanBeReached(t *testing.T) {
	random := rand.New(rand.NewPCG(10, 4))
	for range 1000 {
		h := soundHall(random)
		for _, p := range placesOf(t, h) {
			l := h.Levels[p.Level]
			beside := func(aisle api.Box) bool {
				if p.Row < 0 {
					return touch(aisle, l.Areas[p.Block-len(l.Blocks)].Box)
				}
				r := l.Blocks[p.Block].Rows[p.Row]
				return contains(aisle, point(r.X-r.Step, r.Y)) || contains(aisle, point(r.X+(r.To-r.From+1)*r.Step, r.Y))
			}
			found := false
			for i, reached := range hall.Reached(l) {
				found = found || reached && beside(l.Aisles[i])
			}
			if !found {
				t.Fatalf("the place %v of %v cannot be reached", p, h)
			}
		}
	}
}

// P10.1, J2: halls without faults, and with some of all kinds.
func TestRandomHalls(t *testing.T) {
	random := rand.New(rand.NewPCG(10, 5))
	seen := map[api.Errno]int{}
	for i := range 30000 {
		h := crowdedHall(random)
		if i%2 == 0 {
			h = soundHall(random)
			for range random.IntN(3) {
				spoil(random, &h)
			}
		}
		seen[wantModel(t, h)]++
	}
	for _, err := range []api.Errno{api.OK, api.ErrTwice, api.ErrRange, api.ErrArg, api.ErrNone, api.ErrOverlap, api.ErrReach} {
		if seen[err] < 150 {
			t.Errorf("only %d of the random halls have the error %d first", seen[err], err)
		}
	}
}

// P1: any numbers at all.
func TestAnyNumbers(t *testing.T) {
	random := rand.New(rand.NewPCG(10, 6))
	for range 5000 {
		h := soundHall(random)
		numbers := numbersOf(&h)
		for range 1 + random.IntN(3) {
			*numbers[random.IntN(len(numbers))] = int(random.Uint64()) >> random.IntN(64)
		}
		wantModel(t, h)
		for i := range h.Levels {
			if got, want := hall.Reached(h.Levels[i]), modelReached(h.Levels[i]); !slices.Equal(got, want) {
				t.Fatalf("the aisles of %v are reached as %v, not %v", h.Levels[i], got, want)
			}
		}
	}
}

// P1: each number of a hall replaced by ones that are no coordinates.
func TestEachNumber(t *testing.T) {
	random := rand.New(rand.NewPCG(10, 7))
	for range 15 {
		h := soundHall(random)
		for _, number := range numbersOf(&h) {
			before := *number
			for _, n := range append([]int{0, 1, 60, 61, 4000, 4001, 9999, 10000, before - 1, before + 1}, notCoordinates...) {
				*number = n
				wantModel(t, h)
			}
			*number = before
		}
	}
}

// P10.2.
func TestPlacesAreOrderedAndApart(t *testing.T) {
	random := rand.New(rand.NewPCG(10, 8))
	for range 2000 {
		h := soundHall(random)
		places := placesOf(t, h)
		seats := map[[3]int]bool{}
		for i, p := range places {
			if i > 0 && slices.Compare(rank(places[i-1]), rank(p)) >= 0 {
				t.Fatalf("the place %v of %v comes after %v", p, h, places[i-1])
			}
			if p.Kind == api.PlaceStand {
				continue
			}
			if at := [3]int{p.Level, p.X, p.Y}; seats[at] {
				t.Fatalf("two seats of %v are at %v", h, at)
			} else {
				seats[at] = true
			}
			l := h.Levels[p.Level]
			boxes := slices.Concat(l.Aisles, l.Pillars)
			for _, a := range l.Areas {
				boxes = append(boxes, a.Box)
			}
			if slices.ContainsFunc(boxes, func(b api.Box) bool { return contains(b, point(p.X, p.Y)) }) {
				t.Fatalf("the seat %v of %v is in an area, a pillar or an aisle", p, h)
			}
		}
	}
}

// rank returns what places are ordered by.
func rank(p api.Place) []int { return []int{p.Level, p.Block, p.Row, p.Seat} }

// P10.3.
func TestCompanionsBelongTogether(t *testing.T) {
	random := rand.New(rand.NewPCG(10, 9))
	companions := 0
	for range 2000 {
		h := soundHall(random)
		places := placesOf(t, h)
		for i, p := range places {
			if p.With < -1 || p.With >= len(places) || p.With >= 0 && !slices.Equal(rank(places[p.With])[:3], rank(p)[:3]) {
				t.Fatalf("the place %d of %v belongs to a place outside its row: %v", i, h, p)
			}
			switch {
			case p.Kind == api.PlaceBeside:
				companions++
				if p.With < 0 || places[p.With].Kind != api.PlaceWheel || places[p.With].With < 0 {
					t.Fatalf("the companion's seat %d of %v has no wheelchair place: %v", i, h, places)
				}
			case p.Kind == api.PlaceWheel && p.With >= 0:
				if places[p.With].Kind != api.PlaceBeside || places[p.With].With != i {
					t.Fatalf("the wheelchair place %d of %v does not belong to its companion's seat: %v", i, h, places)
				}
			case p.With != -1:
				t.Fatalf("the place %d of %v belongs to another one: %v", i, h, p)
			}
		}
	}
	if companions < 1000 {
		t.Errorf("the random halls have only %d companions' seats", companions)
	}
}

// P10.5.
func TestOtherNames(t *testing.T) {
	random := rand.New(rand.NewPCG(10, 10))
	for range 1000 {
		h := soundHall(random)
		want := placesOf(t, h)
		h.Name = "other"
		things := labels(h)
		for i, n := range random.Perm(len(things)) {
			*things[i].name = []string{"", "n", "row", "é "}[random.IntN(4)] + strconv.Itoa(n)
			*things[i].at = random.IntN(1000) - 500
		}
		wantPlaces(t, h, want)
	}
}

// P10.6.
func TestOtherLevels(t *testing.T) {
	random := rand.New(rand.NewPCG(10, 11))
	for range 1000 {
		h, other := soundHall(random), soundHall(random)
		places := placesOf(t, h)
		for i := range other.Levels {
			other.Levels[i].Name += "other"
		}
		for i := range h.Levels {
			want := ofLevel(places, i)
			for at := range len(other.Levels) + 1 {
				changed := h
				changed.Levels = slices.Insert(slices.Clone(other.Levels), at, h.Levels[i])
				if got := ofLevel(placesOf(t, changed), at); !slices.Equal(got, want) {
					t.Fatalf("the places of the level %d of %v are %v among other levels, not %v", i, h, got, want)
				}
			}
			alone := h
			alone.Levels = h.Levels[i : i+1]
			wantPlaces(t, alone, want)
		}
	}
}

// ofLevel returns the places of a level as they would be if it were the only one.
func ofLevel(places []api.Place, level int) []api.Place {
	isOfLevel := func(p api.Place) bool { return p.Level == level }
	first := slices.IndexFunc(places, isOfLevel)
	var found []api.Place
	for _, p := range places {
		if isOfLevel(p) {
			p.Level = 0
			if p.With >= 0 {
				p.With -= first
			}
			found = append(found, p)
		}
	}
	return found
}

// P10.7.
func TestFurtherGaps(t *testing.T) {
	random := rand.New(rand.NewPCG(10, 12))
	for range 1000 {
		h := soundHall(random)
		places := placesOf(t, h)
		for i, p := range places {
			if p.Row < 0 || hasCompanion(places, i) {
				continue
			}
			changed := copyOf(h)
			r := &changed.Levels[p.Level].Blocks[p.Block].Rows[p.Row]
			r.Marks = slices.DeleteFunc(r.Marks, func(m api.Mark) bool { return m.Seat == p.Seat })
			r.Marks = slices.Insert(r.Marks, random.IntN(len(r.Marks)+1), gap(p.Seat))
			want := withoutWith(slices.Delete(slices.Clone(places), i, i+1))
			if got := withoutWith(placesOf(t, changed)); !slices.Equal(got, want) {
				t.Fatalf("with a gap at the place %d of %v its places are %v, not %v", i, h, got, want)
			}
			wantModel(t, changed)
		}
	}
}

// hasCompanion reports whether a place is a wheelchair place to which a companion's seat belongs.
func hasCompanion(places []api.Place, i int) bool {
	return slices.ContainsFunc(places, func(p api.Place) bool { return p.Kind == api.PlaceBeside && p.With == i })
}

func withoutWith(places []api.Place) []api.Place {
	for i := range places {
		places[i].With = 0
	}
	return places
}

// P3: also after other calls, and beside them; halls stay as they are, and share no memory with results.
func TestIndependence(t *testing.T) {
	random := rand.New(rand.NewPCG(10, 13))
	type call struct {
		h       api.Hall
		places  []api.Place
		faults  []api.Fault
		reached [][]bool
	}
	var calls []call
	for i := range 1000 {
		h := soundHall(random)
		if i%2 == 0 {
			h = crowdedHall(random)
		}
		copied := copyOf(h)
		k := call{h: copied}
		k.places, k.faults = hall.Build(h)
		for _, l := range h.Levels {
			k.reached = append(k.reached, hall.Reached(l))
		}
		if !reflect.DeepEqual(h, copied) {
			t.Fatalf("the calls changed %v to %v", copied, h)
		}
		for _, n := range numbersOf(&h) {
			*n = 77
		}
		calls = append(calls, k)
	}
	var all sync.WaitGroup
	for range 4 {
		all.Go(func() {
			for i := range calls {
				k := calls[len(calls)-1-i]
				places, faults := hall.Build(k.h)
				same := slices.Equal(places, k.places) && slices.Equal(faults, k.faults)
				for j, l := range k.h.Levels {
					same = same && slices.Equal(hall.Reached(l), k.reached[j])
				}
				if !same {
					t.Errorf("equal arguments have other results: %v", k.h)
				}
			}
		})
	}
	all.Wait()
}

func fault(err api.Errno, at rune, other int) api.Fault {
	return api.Fault{Err: err, At: int(at), Other: other}
}

func wantPlaces(t *testing.T, h api.Hall, want []api.Place) {
	t.Helper()
	if places, faults := hall.Build(h); !slices.Equal(places, want) || len(faults) > 0 {
		t.Fatalf("%+v has the places %+v, not %+v, and the faults %+v", h, places, want, faults)
	}
}

func wantFaults(t *testing.T, h api.Hall, want ...api.Fault) {
	t.Helper()
	if places, faults := hall.Build(h); !slices.Equal(faults, want) || len(places) > 0 {
		t.Fatalf("%+v has the faults %+v, not %+v, and the places %+v", h, faults, want, places)
	}
}

// wantModel compares Build with the model, and returns the error of the first fault.
func wantModel(t *testing.T, h api.Hall) api.Errno {
	t.Helper()
	places, faults := modelBuild(h)
	if len(faults) > 0 {
		wantFaults(t, h, faults...)
		return faults[0].Err
	}
	wantPlaces(t, h, places)
	return api.OK
}

// placesOf returns the places of a hall that has no faults.
func placesOf(t *testing.T, h api.Hall) []api.Place {
	t.Helper()
	places, faults := hall.Build(h)
	if len(faults) > 0 {
		t.Fatalf("%+v has the faults %+v", h, faults)
	}
	return places
}
