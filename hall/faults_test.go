package hall_test

import (
	"math"
	"slices"
	"strconv"
	"testing"

	"foyer/api"
	"foyer/hall"
)

// fullLevel returns a level that has as much as it may have, or more: its blocks are empty, and its areas, pillars and doors are in its aisles.
func fullLevel(blocks, areas, aisles, pillars, doors int) api.Level {
	l := api.Level{Name: "L", At: 'L'}
	for i := range blocks {
		l.Blocks = append(l.Blocks, api.Block{Name: "block" + strconv.Itoa(i), At: 1000 + i})
	}
	for i := range areas {
		l.Areas = append(l.Areas, api.Area{Name: "area" + strconv.Itoa(i), Box: box(i, 0, i, 0), Holds: 1, At: 2000 + i})
	}
	l.Aisles = slices.Repeat([]api.Box{box(0, 0, 99, 0)}, aisles)
	l.Pillars = slices.Repeat([]api.Box{box(0, 0, 99, 0)}, pillars)
	l.Doors = slices.Repeat([]api.Point{point(5, 0)}, doors)
	return l
}

// P10.1, J2.
func TestNamesOfLevels(t *testing.T) {
	level := func(at rune, name string) api.Level { return api.Level{Name: name, At: int(at)} }
	wantPlaces(t, hallOf(level('a', "a"), level('b', "b"), level('c', "A"), level('d', "")), nil)
	wantFaults(t, hallOf(level('a', "a"), level('b', "a")), fault(api.ErrTwice, 'b', 'a'))
	wantFaults(t, hallOf(level('a', ""), level('b', "")), fault(api.ErrTwice, 'b', 'a'))
	wantFaults(t, hallOf(level('z', "a"), level('c', "a"), level('b', "a")), fault(api.ErrTwice, 'c', 'z'), fault(api.ErrTwice, 'b', 'z'))
	wantFaults(t, hallOf(level('a', "a"), level('b', "b"), level('c', "b"), level('d', "a"), level('e', "b")), fault(api.ErrTwice, 'c', 'b'), fault(api.ErrTwice, 'd', 'a'), fault(api.ErrTwice, 'e', 'b'))
	wantFaults(t, hallOf(level(-1, "a"), level(-1, "a")), fault(api.ErrTwice, -1, -1))
	wantFaults(t, hallOf(level(0, "a"), level(0, "a")), fault(api.ErrTwice, 0, 0))
}

// P10.1, J2: levels, blocks and rows may have each other's names, and those of other levels and blocks.
func TestNamesOfParts(t *testing.T) {
	block := func(at rune, name string, rows ...api.Row) api.Block {
		return api.Block{Name: name, At: int(at), Rows: rows}
	}
	row := func(at rune, name string) api.Row {
		r := rowAt(at, 2, int(at-'a')%9, 1, 1, 1)
		r.Name = name
		return r
	}
	area := func(at rune, name string) api.Area {
		a := areaAt(at, 1, 9, 1, 9, 1)
		a.Name = name
		return a
	}
	level := func(name string, areas []api.Area, blocks ...api.Block) api.Level {
		l := chapterLevel()
		l.Name, l.Areas, l.Blocks = name, areas, blocks
		return l
	}
	one := func(l api.Level) api.Hall { return hallOf(l) }
	if _, faults := hall.Build(hallOf(
		level("a", []api.Area{area('f', "c")}, block('b', "a", row('c', "a"), row('d', "b")), block('e', "b", row('h', "a"), row('i', "b"))),
		level("b", []api.Area{area('f', "c")}, block('b', "a", row('c', "a"), row('d', "b"))),
	)); faults != nil {
		t.Errorf("names that differ where they must have the faults %v", faults)
	}
	// rows
	wantFaults(t, one(level("L", nil, block('A', "A", row('b', "x"), row('c', "x")))), fault(api.ErrTwice, 'c', 'b'))
	wantFaults(t, one(level("L", nil, block('A', "A", row('b', "x"), row('c', "y"), row('d', "x"), row('e', "y"), row('f', "x")))), fault(api.ErrTwice, 'd', 'b'), fault(api.ErrTwice, 'e', 'c'), fault(api.ErrTwice, 'f', 'b'))
	wantFaults(t, one(level("L", nil, block('A', "A", row('b', "x")), block('B', "B", row('c', "x"), row('d', "x")))), fault(api.ErrTwice, 'd', 'c'))
	// blocks
	wantFaults(t, one(level("L", nil, block('A', "x"), block('B', "x"), block('C', "y"), block('D', "x"))), fault(api.ErrTwice, 'B', 'A'), fault(api.ErrTwice, 'D', 'A'))
	wantFaults(t, one(level("L", nil, block('A', "x", row('b', "x")), block('B', "x", row('c', "x"), row('d', "x")))), fault(api.ErrTwice, 'B', 'A'), fault(api.ErrTwice, 'd', 'c'))
	// areas
	wantFaults(t, one(level("L", []api.Area{area('x', "m"), area('y', "m"), area('z', "m")})), fault(api.ErrTwice, 'y', 'x'), fault(api.ErrTwice, 'z', 'x'))
	wantFaults(t, one(level("L", []api.Area{area('x', "n"), area('y', "n"), area('z', "m")}, block('A', "m"))), fault(api.ErrTwice, 'y', 'x'), fault(api.ErrTwice, 'z', 'A'))
	wantFaults(t, one(level("L", []api.Area{area('x', "m"), area('y', "m")}, block('A', "m"), block('B', "m"))), fault(api.ErrTwice, 'B', 'A'), fault(api.ErrTwice, 'x', 'A'), fault(api.ErrTwice, 'y', 'A'))
	// in levels that have a name twice themselves
	wantFaults(t, hallOf(level("L", nil, block('A', "x")), level("L", []api.Area{area('y', "x")}, block('B', "x"))), fault(api.ErrTwice, 'L', 'L'), fault(api.ErrTwice, 'y', 'B'))
}

// P10.1, J2.
func TestLimitsOfLevels(t *testing.T) {
	var h api.Hall
	for i := range 11 {
		h.Levels = append(h.Levels, api.Level{Name: strconv.Itoa(i), At: 100 + i})
	}
	eight, nine := h, h
	eight.Levels, nine.Levels = h.Levels[:8], h.Levels[:9]
	wantPlaces(t, eight, nil)
	wantFaults(t, nine, fault(api.ErrLimit, 108, -1))
	wantFaults(t, h, fault(api.ErrLimit, 108, -1), fault(api.ErrLimit, 109, -1), fault(api.ErrLimit, 110, -1))
	h.Levels[9].Name, h.Levels[8].Height, h.Levels[3].Height = "2", -1, -1
	h.Levels[10].Blocks = []api.Block{{Name: "b", At: 7}, {Name: "b", At: 8}}
	wantFaults(t, h, fault(api.ErrRange, 103, -1), fault(api.ErrLimit, 108, -1), fault(api.ErrTwice, 109, 102), fault(api.ErrLimit, 110, -1), fault(api.ErrTwice, 8, 7))
}

// P10.1, J2.
func TestLimitsOfParts(t *testing.T) {
	for _, l := range []api.Level{fullLevel(40, 0, 0, 0, 0), fullLevel(0, 40, 40, 40, 40), fullLevel(17, 23, 1, 0, 1)} {
		if places, faults := hall.Build(hallOf(l)); len(places) != len(l.Areas) || faults != nil {
			t.Errorf("a full level has the places %v and the faults %v", places, faults)
		}
	}
	for _, l := range []api.Level{
		fullLevel(41, 0, 0, 0, 0), fullLevel(0, 41, 1, 0, 1), fullLevel(40, 1, 1, 0, 1), fullLevel(1, 40, 1, 0, 1), fullLevel(20, 21, 1, 0, 1),
		fullLevel(0, 0, 41, 0, 0), fullLevel(0, 0, 0, 41, 0), fullLevel(0, 0, 0, 0, 41), fullLevel(1000, 1000, 1000, 1000, 1000),
	} {
		wantFaults(t, hallOf(l), fault(api.ErrLimit, 'L', -1))
		l.Height = -1
		wantFaults(t, hallOf(l), fault(api.ErrLimit, 'L', -1))
		twin := l
		twin.At = 'M'
		wantFaults(t, hallOf(l, twin), fault(api.ErrLimit, 'L', -1), fault(api.ErrTwice, 'M', 'L'))
	}
}

// P10.1, J2: each number of a level, at the bounds and beyond them.
func TestRangesOfLevels(t *testing.T) {
	l := api.Level{
		Name: "L", At: 'L',
		Aisles:  []api.Box{box(1, 2, 3, 4), box(0, 0, 10000, 10000), box(5, 5, 5, 5)},
		Pillars: []api.Box{box(1, 2, 3, 4), box(0, 0, 10000, 10000), box(5, 5, 5, 5)},
		Doors:   []api.Point{point(0, 10000), point(10000, 0), point(7, 7)},
	}
	for _, height := range []int{0, 1, 9999, 10000} {
		l.Height = height
		wantPlaces(t, hallOf(l), nil)
	}
	h := hallOf(l)
	numbers := numbersOf(&h)[2:] // without the stage
	if len(numbers) != 1+12+12+6 {
		t.Fatalf("the level has %d numbers", len(numbers))
	}
	for _, number := range numbers {
		before := *number
		for _, n := range notCoordinates {
			*number = n
			wantFaults(t, h, fault(api.ErrRange, 'L', -1))
		}
		*number = before
	}
	for _, b := range []api.Box{box(4, 2, 3, 4), box(3, 5, 4, 4), box(10000, 0, 0, 10000), box(9, 9, 0, 0), box(1, 0, 0, 0), box(0, 1, 0, 0)} {
		for i := range l.Aisles {
			changed := copyOf(h)
			changed.Levels[0].Aisles[i] = b
			wantFaults(t, changed, fault(api.ErrRange, 'L', -1))
			changed = copyOf(h)
			changed.Levels[0].Pillars[i] = b
			wantFaults(t, changed, fault(api.ErrRange, 'L', -1))
		}
	}
}

// P10.1, J2.
func TestLimitsOfBlocks(t *testing.T) {
	rows := func(n int) []api.Row {
		var rows []api.Row
		for i := range n {
			r := rowAt('a', 3, 5, 1, 1, 1)
			r.Name, r.At = strconv.Itoa(i), 1000+i
			r.X, r.Y = 101, i
			rows = append(rows, r)
		}
		return rows
	}
	h := chapterHall(rows(60)...)
	h.Levels[0].Aisles[0] = box(0, 0, 100, 100)
	if places, faults := hall.Build(h); len(places) != 60 || faults != nil {
		t.Errorf("a full block has the places %v and the faults %v", places, faults)
	}
	h.Levels[0].Blocks[0].Rows = rows(61)
	wantFaults(t, h, fault(api.ErrLimit, 'B', -1))
	h.Levels[0].Blocks[0].Rows[60].Name = "7"
	wantFaults(t, h, fault(api.ErrLimit, 'B', -1), fault(api.ErrTwice, 1060, 1007))
	h.Levels[0].Blocks = append(h.Levels[0].Blocks, api.Block{Name: "B", At: 'C', Rows: rows(61)})
	wantFaults(t, h, fault(api.ErrLimit, 'B', -1), fault(api.ErrTwice, 1060, 1007), fault(api.ErrTwice, 'C', 'B'))
}

// P10.1, J2: numbers of rows, at the bounds and beyond them.
func TestRangesOfRows(t *testing.T) {
	// Each of them stands beside an aisle that begins one step before it.
	for _, r := range []api.Row{
		rowAt('a', 1, 0, 1, 1, 1), rowAt('a', 1, 10000, 1, 60, 1), rowAt('a', 10000, 5, 1, 1, 1), rowAt('a', 1, 5, 10000, 10000, 1), rowAt('a', 1, 5, 9941, 10000, 1),
		rowAt('a', 9941, 5, 1, 60, 1), rowAt('a', 10000, 5, 7, 7, 10000), rowAt('a', 5000, 5, 1, 2, 5000), rowAt('a', 36, 5, 1, 60, 36), rowAt('a', 169, 5, 1, 60, 166), rowAt('a', 9998, 5, 1, 3, 1),
	} {
		h := chapterHall(r)
		h.Levels[0].Aisles[0] = box(r.X-r.Step, r.Y, r.X-r.Step, r.Y)
		h.Levels[0].Doors[0] = point(r.X-r.Step, r.Y)
		if places, faults := hall.Build(h); len(places) != r.To-r.From+1 || places[len(places)-1].X > 10000 || faults != nil {
			t.Errorf("the row %v has the places %v and the faults %v", r, places, faults)
		}
	}
	for _, r := range []api.Row{
		rowAt('a', 3, 5, 0, 3, 1), rowAt('a', 3, 5, -1, 3, 1), rowAt('a', 3, 5, 3, 2, 1), rowAt('a', 3, 5, 0, 0, 1), rowAt('a', 3, 5, 0, -1, 1), rowAt('a', 3, 5, 9999, 10001, 1), rowAt('a', 3, 5, 10001, 10001, 1), rowAt('a', 3, 5, 1, 10001, 1),
		rowAt('a', 3, 5, 1, 3, 0), rowAt('a', 3, 5, 1, 1, 0), rowAt('a', 3, 5, 1, 3, -1), rowAt('a', 9, 5, 1, 3, -2),
		rowAt('a', -1, 5, 1, 3, 1), rowAt('a', 10001, 5, 1, 1, 1), rowAt('a', 3, -1, 1, 3, 1), rowAt('a', 3, 10001, 1, 3, 1),
		rowAt('a', 9942, 5, 1, 60, 1), rowAt('a', 10000, 5, 1, 2, 1), rowAt('a', 9999, 5, 1, 3, 1), rowAt('a', 170, 5, 1, 3, 4916), rowAt('a', 0, 5, 1, 2, 10001), rowAt('a', 0, 5, 1, 60, 170),
		// products beyond an int, some of which come back among the coordinates
		rowAt('a', 0, 5, 1, 3, 1<<63-1), rowAt('a', 0, 5, 1, 3, 1<<62), rowAt('a', 5, 5, 1, 5, 1<<62), rowAt('a', 5, 5, 1, 9, 1<<61), rowAt('a', 5, 5, 1, 17, 1<<60+1<<59), rowAt('a', 5, 5, 1, 3, 1<<63-1), rowAt('a', 9, 5, 1, 2, 1<<63-9),
		rowAt('a', 5, 5, math.MinInt, math.MaxInt, 1), rowAt('a', 5, 5, 1, math.MaxInt, 1), rowAt('a', 5, 5, math.MinInt, 5, 1), rowAt('a', 5, 5, 1, 2, math.MinInt), rowAt('a', math.MinInt, 5, 1, 2, 1), rowAt('a', math.MaxInt, 5, 1, 2, 1),
	} {
		wantFaults(t, chapterHall(r), fault(api.ErrRange, 'a', -1))
	}
}

// P10.1, J2: a single seat may have any step, as no other one follows it.
func TestGreatSteps(t *testing.T) {
	for _, step := range []int{10001, 1 << 32, 1 << 62, 1<<63 - 1, 1<<63 - 3} {
		for _, x := range []int{0, 3, 10000} {
			h := chapterHall(rowAt('a', x, 5, 4, 4, step))
			h.Levels[0].Aisles[0] = box(0, 0, 10000, 0)
			wantFaults(t, h, fault(api.ErrReach, 'a', -1))
		}
	}
}

// P10.1, J2.
func TestLimitsOfRows(t *testing.T) {
	var marks []api.Mark
	for s := 1; s <= 60; s++ {
		marks = append(marks, hidden(s))
	}
	h := chapterHall(rowAt('a', 3, 5, 1, 60, 2, marks...))
	if places, faults := hall.Build(h); len(places) != 60 || faults != nil {
		t.Errorf("a full row has the places %v and the faults %v", places, faults)
	}
	wantFaults(t, chapterHall(rowAt('a', 3, 5, 1, 61, 2)), fault(api.ErrLimit, 'a', -1))
	wantFaults(t, chapterHall(rowAt('a', 3, 5, 1, 4999, 2)), fault(api.ErrLimit, 'a', -1))
	wantFaults(t, chapterHall(rowAt('a', 3, 5, 9940, 10000, 1)), fault(api.ErrLimit, 'a', -1))
	wantFaults(t, chapterHall(rowAt('a', 3, 5, 1, 60, 2, append(marks, hidden(1))...)), fault(api.ErrLimit, 'a', -1))
	wantFaults(t, chapterHall(rowAt('a', 3, 5, 1, 3, 2, slices.Repeat([]api.Mark{{}}, 61)...)), fault(api.ErrLimit, 'a', -1))
	wantFaults(t, chapterHall(rowAt('a', 3, 5, 1, 3, 2, slices.Repeat([]api.Mark{hidden(1)}, 60)...)), fault(api.ErrTwice, 'a', -1))
	wantFaults(t, chapterHall(rowAt('a', 3, 5, 0, 60, 2, append(marks, hidden(1))...)), fault(api.ErrRange, 'a', -1))
	// gaps are seats, too
	wantFaults(t, chapterHall(rowAt('a', 3, 5, 1, 61, 2, gap(1), gap(61))), fault(api.ErrLimit, 'a', -1))
}

// P10.1, J2.
func TestMarks(t *testing.T) {
	kind := func(kind, seat int) api.Mark { return api.Mark{Kind: kind, Seat: seat} }
	for _, test := range []struct {
		marks []api.Mark
		want  api.Errno
	}{
		{[]api.Mark{kind(0, 2)}, api.ErrArg},
		{[]api.Mark{kind(5, 2)}, api.ErrArg},
		{[]api.Mark{kind(-1, 2)}, api.ErrArg},
		{[]api.Mark{kind(math.MaxInt, 2)}, api.ErrArg},
		{[]api.Mark{kind(math.MinInt, 2)}, api.ErrArg},
		{[]api.Mark{gap(2), hidden(3), kind(0, 1)}, api.ErrArg},
		{[]api.Mark{gap(1)}, api.ErrNone},
		{[]api.Mark{gap(5)}, api.ErrNone},
		{[]api.Mark{wheel(0)}, api.ErrNone},
		{[]api.Mark{hidden(-2)}, api.ErrNone},
		{[]api.Mark{wheel(3), beside(5, 3)}, api.ErrNone},
		{[]api.Mark{hidden(math.MaxInt)}, api.ErrNone},
		{[]api.Mark{hidden(math.MinInt)}, api.ErrNone},
		{[]api.Mark{gap(2), gap(2)}, api.ErrTwice},
		{[]api.Mark{gap(2), wheel(3), hidden(2)}, api.ErrTwice},
		{[]api.Mark{wheel(2), beside(2, 2)}, api.ErrTwice},
		{[]api.Mark{beside(2, 2), wheel(2)}, api.ErrTwice},
		{[]api.Mark{beside(2, 3)}, api.ErrNone},
		{[]api.Mark{beside(2, 2)}, api.ErrNone},
		{[]api.Mark{beside(2, 3), gap(3)}, api.ErrNone},
		{[]api.Mark{beside(2, 3), hidden(3)}, api.ErrNone},
		{[]api.Mark{beside(2, 3), beside(3, 2)}, api.ErrNone},
		{[]api.Mark{beside(2, 3), beside(3, 4), wheel(4)}, api.ErrNone},
		{[]api.Mark{beside(2, 0), wheel(3)}, api.ErrNone},
		{[]api.Mark{beside(2, 5), wheel(4)}, api.ErrNone},
		{[]api.Mark{beside(2, 4), beside(3, 1), wheel(4)}, api.ErrNone},
		// the first one of several
		{[]api.Mark{gap(9), kind(0, 2)}, api.ErrArg},
		{[]api.Mark{gap(2), gap(2), kind(7, 3)}, api.ErrArg},
		{[]api.Mark{beside(2, 3), kind(7, 3)}, api.ErrArg},
		{[]api.Mark{gap(2), gap(2), gap(9)}, api.ErrNone},
		{[]api.Mark{beside(4, 2), gap(3), gap(3)}, api.ErrTwice},
		{[]api.Mark{kind(9, 9), kind(9, 9)}, api.ErrArg},
		{[]api.Mark{gap(9), gap(9)}, api.ErrNone},
	} {
		wantFaults(t, chapterHall(rowAt('a', 3, 5, 2, 4, 2, test.marks...)), fault(test.want, 'a', -1))
		// after a fault that comes first, too
		wantFaults(t, chapterHall(rowAt('a', 3, 5, 2, 4, 0, test.marks...)), fault(api.ErrRange, 'a', -1))
		wantFaults(t, chapterHall(rowAt('a', 3, 5, 2, 64, 1, test.marks...)), fault(api.ErrLimit, 'a', -1))
		wantFaults(t, chapterHall(rowAt('a', 3, 4, 1, 1, 2), rowAt('a', 3, 5, 2, 4, 2, test.marks...)), fault(api.ErrTwice, 'a', 'a'))
	}
}

// P10.1, J2.
func TestRangesOfAreas(t *testing.T) {
	h := chapterHall()
	h.Levels[0].Areas = []api.Area{areaAt('x', 0, 0, 10000, 10000, 4000)}
	if places, faults := hall.Build(h); len(places) != 4000 || faults != nil {
		t.Errorf("a great area has %d places and the faults %v", len(places), faults)
	}
	for _, a := range []api.Area{
		areaAt('x', 1, 0, 0, 9, 1), areaAt('x', 0, 1, 9, 0, 1), areaAt('x', 9, 9, 0, 0, 1), areaAt('x', 0, 0, 9, 9, 0), areaAt('x', 0, 0, 9, 9, -1), areaAt('x', 0, 0, 9, 9, 4001), areaAt('x', 0, 0, 9, 9, math.MaxInt), areaAt('x', 0, 0, 9, 9, math.MinInt),
		areaAt('x', -1, 0, 9, 9, 1), areaAt('x', 0, -1, 9, 9, 1), areaAt('x', 0, 0, 10001, 9, 1), areaAt('x', 0, 0, 9, 10001, 1), areaAt('x', -2, 0, -1, 9, 1), areaAt('x', 0, -2, 9, -1, 1), areaAt('x', 10001, 0, 10002, 9, 1), areaAt('x', 0, 10001, 9, 10002, 1),
	} {
		h.Levels[0].Areas = []api.Area{a}
		wantFaults(t, h, fault(api.ErrRange, 'x', -1))
		a.Name = "B"
		h.Levels[0].Areas = []api.Area{a}
		wantFaults(t, h, fault(api.ErrTwice, 'x', 'B'))
	}
}

// P10.1, J2: faults of single things are in the order of the things.
func TestOrderOfSingleFaults(t *testing.T) {
	bad := func(letter rune) api.Row { return rowAt(letter, 3, 5, 0, 3, 1) }
	level := func(name string, at int) api.Level {
		return api.Level{
			Name: name, At: at, Height: -1,
			Blocks: []api.Block{{Name: "b", At: at + 1, Rows: []api.Row{bad('c'), bad('d')}}, {Name: "b", At: at + 2, Rows: []api.Row{bad('e'), rowAt('f', 3, 5, 1, 1, 1), bad('g')}}},
			Areas:  []api.Area{areaAt('y', 0, 0, 0, 0, 0), areaAt('x', 1, 0, 0, 0, 1)},
		}
	}
	rows := []api.Fault{fault(api.ErrRange, 'e', -1), fault(api.ErrRange, 'g', -1), fault(api.ErrRange, 'y', -1), fault(api.ErrRange, 'x', -1)}
	want := append([]api.Fault{fault(api.ErrRange, 900, -1), fault(api.ErrRange, 'c', -1), fault(api.ErrRange, 'd', -1), fault(api.ErrTwice, 902, 901)}, rows...)
	want = append(want, fault(api.ErrRange, 100, -1), fault(api.ErrRange, 'c', -1), fault(api.ErrRange, 'd', -1), fault(api.ErrTwice, 102, 101))
	want = append(want, rows...)
	h := hallOf(level("1", 900), level("2", 100))
	wantFaults(t, h, want...)
	h.Stage.X = -1
	wantFaults(t, h, want...)
}

// P10.1, J2: the stage comes after single things, and before all else.
func TestStage(t *testing.T) {
	for _, stage := range []api.Point{point(0, 0), point(10000, 10000), point(0, 10000), point(10000, 0)} {
		h := api.Hall{Stage: stage}
		wantPlaces(t, h, nil)
	}
	for _, n := range notCoordinates {
		for _, stage := range []api.Point{point(n, 0), point(0, n), point(n, n), point(10000, n), point(n, 10000)} {
			wantFaults(t, api.Hall{Stage: stage}, fault(api.ErrRange, -1, -1))
		}
	}
	h := chapterHall(rowAt('a', 30, 5, 1, 1, 1))
	h.Stage.Y = 10001
	wantFaults(t, h, fault(api.ErrRange, -1, -1))
	h.Levels[0].Areas = []api.Area{areaAt('x', 0, 0, 1, 1, 4000)}
	wantFaults(t, h, fault(api.ErrRange, -1, -1))
	h.Levels[0].Height = -1
	wantFaults(t, h, fault(api.ErrRange, 'L', -1))
}

// P10.1, J2, P10.2: rows without their gaps, and areas of all levels are counted.
func TestLimitOfPlaces(t *testing.T) {
	second := api.Level{Name: "M", At: 'M', Aisles: []api.Box{box(0, 0, 9, 9)}, Doors: []api.Point{point(0, 0)}, Areas: []api.Area{areaAt('y', 0, 0, 1, 1, 1000), areaAt('z', 3, 3, 4, 4, 2991)}}
	first := chapterLevel(rowAt('a', 3, 5, 1, 6, 2, gap(2), gap(5), hidden(6), wheel(1), beside(3, 1)), rowAt('b', 2, 4, 1, 1, 1))
	first.Areas = []api.Area{areaAt('x', 0, 0, 0, 0, 4)}
	h := hallOf(first, second)
	if places, faults := hall.Build(h); len(places) != 4000 || faults != nil {
		t.Errorf("the plan has %d places and the faults %v", len(places), faults)
	}
	for _, change := range []func(h *api.Hall){
		func(h *api.Hall) { h.Levels[1].Areas[1].Holds++ },
		func(h *api.Hall) { h.Levels[1].Areas[0].Holds++ },
		func(h *api.Hall) { h.Levels[0].Areas[0].Holds++ },
		func(h *api.Hall) { h.Levels[0].Areas[0].Holds = 4000 },
		func(h *api.Hall) { h.Levels[0].Blocks[0].Rows[1].To++ },
		func(h *api.Hall) {
			h.Levels[0].Blocks[0].Rows[0].Marks = h.Levels[0].Blocks[0].Rows[0].Marks[1:]
		},
		func(h *api.Hall) {
			h.Levels[0].Blocks = append(h.Levels[0].Blocks, api.Block{Name: "C", Rows: []api.Row{rowAt('c', 5000, 4, 1, 1, 1)}})
		},
	} {
		changed := copyOf(h)
		change(&changed)
		wantFaults(t, changed, fault(api.ErrLimit, -1, -1))
		changed.Levels[0].Doors = nil
		wantFaults(t, changed, fault(api.ErrLimit, -1, -1))
		changed.Levels[0].Pillars = []api.Box{box(1, 1, 0, 0)}
		wantFaults(t, changed, fault(api.ErrRange, 'L', -1))
	}
}

// P10.1, J2: the greatest plans of rows, with places and without them.
func TestGreatestPlans(t *testing.T) {
	var h api.Hall
	for i := range 8 {
		l := api.Level{Name: strconv.Itoa(i), At: i, Aisles: []api.Box{box(0, 0, 0, 10000)}, Doors: []api.Point{point(0, 0)}}
		for j := range 40 {
			b := api.Block{Name: strconv.Itoa(j)}
			for k := range 60 {
				r := api.Row{Name: strconv.Itoa(k), X: 1, Y: 60*j + k, From: 1, To: 60, Step: 1, At: 60*j + k}
				for s := 1; s <= 60 && i+j > 0; s++ {
					r.Marks = append(r.Marks, gap(s))
				}
				b.Rows = append(b.Rows, r)
			}
			l.Blocks = append(l.Blocks, b)
		}
		h.Levels = append(h.Levels, l)
	}
	if places, faults := hall.Build(h); len(places) != 3600 || faults != nil {
		t.Errorf("the plan has %d places and the faults %v", len(places), faults)
	}
	for _, r := range rowsOf(h) {
		r.Marks = nil
	}
	wantFaults(t, h, fault(api.ErrLimit, -1, -1))
}

// P10.1, J2: rows that are at one point.
func TestRowsOverlap(t *testing.T) {
	a := chapterRow() // at 3, 5 and 7
	for _, test := range []struct {
		row     api.Row
		overlap bool
	}{
		{rowAt('b', 2, 5, 1, 1, 1), false}, {rowAt('b', 3, 5, 1, 1, 2), true}, {rowAt('b', 2, 5, 1, 3, 1), true}, {rowAt('b', 2, 5, 1, 3, 2), false}, {rowAt('b', 3, 4, 1, 3, 2), false}, {rowAt('b', 3, 6, 1, 3, 2), false},
		{rowAt('b', 2, 5, 1, 2, 5), true}, {rowAt('b', 2, 5, 1, 2, 6), false}, {rowAt('b', 8, 5, 1, 2, 7), false}, {rowAt('b', 7, 5, 9, 10, 6), true},
		{rowAt('b', 3, 5, 1, 1, 2, gap(1)), false}, {rowAt('b', 2, 5, 1, 3, 1, gap(2)), false}, {rowAt('b', 2, 5, 1, 4, 1, gap(2)), true}, {rowAt('b', 3, 5, 1, 3, 2, gap(1), gap(3)), true},
		{rowAt('b', 3, 5, 1, 1, 2, wheel(1)), true}, {rowAt('b', 3, 5, 1, 1, 2, hidden(1)), true},
	} {
		overlaps := func(h api.Hall) bool {
			_, faults := hall.Build(h)
			return slices.Contains(faults, fault(api.ErrOverlap, 'b', 'a'))
		}
		h := chapterHall(a, test.row)
		wantModel(t, h)
		if overlaps(h) != test.overlap {
			t.Errorf("whether the row %v overlaps is %t", test.row, !test.overlap)
		}
		h.Levels[0].Blocks = []api.Block{{Name: "A", Rows: []api.Row{a}}, {Name: "C"}, {Name: "B", Rows: []api.Row{test.row}}}
		wantModel(t, h)
		if overlaps(h) != test.overlap {
			t.Errorf("whether the row %v overlaps one of another block is %t", test.row, !test.overlap)
		}
		h = hallOf(chapterLevel(a), chapterLevel(test.row))
		h.Levels[1].Name = "M"
		wantModel(t, h)
		if overlaps(h) {
			t.Errorf("the row %v overlaps one of another level", test.row)
		}
	}
}

// P10.1, J2: each earlier row counts once, in order, and gaps of it do not count.
func TestRowsOverlapSeveral(t *testing.T) {
	beside := func(rows ...api.Row) api.Hall { // an aisle at 3 5 is one step left of 5 and of 4
		h := chapterHall(rows...)
		h.Levels[0].Aisles, h.Levels[0].Doors = []api.Box{box(3, 5, 3, 5)}, []api.Point{point(3, 5)}
		return h
	}
	wantFaults(t, beside(rowAt('z', 5, 5, 1, 3, 2), rowAt('y', 4, 5, 1, 9, 1), rowAt('x', 5, 5, 1, 3, 2), rowAt('w', 4, 5, 1, 1, 1)),
		fault(api.ErrOverlap, 'y', 'z'), fault(api.ErrOverlap, 'x', 'z'), fault(api.ErrOverlap, 'x', 'y'), fault(api.ErrOverlap, 'w', 'y'))
	wantFaults(t, beside(rowAt('a', 4, 5, 3, 5, 1, gap(4)), rowAt('b', 5, 5, 1, 1, 2), rowAt('c', 4, 5, 1, 3, 1)),
		fault(api.ErrOverlap, 'c', 'a'), fault(api.ErrOverlap, 'c', 'b'))
	// the later row is met first when one goes from left to right
	wantFaults(t, beside(rowAt('a', 7, 5, 1, 2, 4), rowAt('b', 5, 5, 1, 1, 2), rowAt('c', 5, 5, 1, 3, 2)),
		fault(api.ErrOverlap, 'c', 'a'), fault(api.ErrOverlap, 'c', 'b'))
	// equal offsets and names in other blocks
	h := beside(rowAt('a', 5, 5, 1, 1, 2), rowAt('b', 5, 5, 1, 1, 2))
	h.Levels[0].Blocks = append(h.Levels[0].Blocks, api.Block{Name: "C", Rows: []api.Row{rowAt('a', 5, 5, 1, 1, 2)}})
	wantFaults(t, h, fault(api.ErrOverlap, 'b', 'a'), fault(api.ErrOverlap, 'a', 'a'), fault(api.ErrOverlap, 'a', 'b'))
	// all at one point
	var rows []api.Row
	var want []api.Fault
	for i := range 60 {
		r := rowAt('a', 5, 5, 1, 1, 2)
		r.Name, r.At = strconv.Itoa(i), 100+i
		for j := range rows {
			want = append(want, fault(api.ErrOverlap, rune(r.At), 100+j))
		}
		rows = append(rows, r)
	}
	wantFaults(t, beside(rows...), want...)
}

// P10.1, J2: a row has one fault for all pillars and aisles.
func TestRowsInPillarsAndAisles(t *testing.T) {
	for _, test := range []struct {
		box  api.Box
		want bool
	}{
		{box(3, 5, 3, 5), true}, {box(5, 5, 5, 5), true}, {box(7, 5, 7, 5), true}, {box(4, 5, 4, 5), false}, {box(6, 5, 6, 5), false}, {box(4, 0, 4, 9), false}, {box(4, 0, 5, 5), true}, {box(4, 5, 5, 9), true}, {box(2, 0, 2, 9), false}, {box(8, 0, 8, 9), false},
		{box(0, 4, 9, 4), false}, {box(0, 6, 9, 6), false}, {box(0, 4, 9, 6), true}, {box(0, 0, 10000, 10000), true}, {box(7, 5, 9, 9), true}, {box(1, 1, 3, 5), true}, {box(9, 5, 9, 5), false},
	} {
		var want []api.Fault
		if test.want {
			want = append(want, fault(api.ErrOverlap, 'a', -1))
		}
		h := chapterHall(chapterRow())
		h.Levels[0].Pillars = []api.Box{box(99, 99, 99, 99), test.box, box(98, 99, 98, 99)}
		wantOnlyFaults(t, h, want)
		h.Levels[0].Pillars = []api.Box{test.box, test.box, box(5, 5, 5, 5)}
		wantFaults(t, h, fault(api.ErrOverlap, 'a', -1))
		h.Levels[0].Pillars = nil
		h.Levels[0].Aisles = append(h.Levels[0].Aisles, test.box)
		wantOnlyFaults(t, h, want)
		h.Levels[0].Doors = append(h.Levels[0].Doors, point(test.box.X, test.box.Y))
		wantOnlyFaults(t, h, want)
		// on another level
		h = chapterHall(chapterRow())
		for _, name := range []string{"M", "N"} {
			other := chapterLevel()
			other.Name, other.Pillars, other.Aisles = name, []api.Box{test.box}, []api.Box{test.box}
			h.Levels = append(h.Levels, other)
		}
		h.Levels[0], h.Levels[1] = h.Levels[1], h.Levels[0]
		wantOnlyFaults(t, h, nil)
		// with gaps instead of places
		h = chapterHall(chapterRow(gap(1), gap(2), gap(3)))
		h.Levels[0].Pillars = []api.Box{test.box}
		wantOnlyFaults(t, h, nil)
	}
	h := chapterHall(chapterRow(gap(2)))
	h.Levels[0].Pillars = []api.Box{box(5, 5, 5, 5)}
	wantOnlyFaults(t, h, nil)
}

// P10.1, J2, P10.4.
func TestRowsAreReached(t *testing.T) {
	one := func(r api.Row, aisle api.Box) api.Hall {
		h := chapterHall(r)
		h.Levels[0].Aisles, h.Levels[0].Doors = []api.Box{aisle}, []api.Point{point(aisle.X, aisle.Y)}
		return h
	}
	// seats at 20, 23 and 26
	for _, test := range []struct {
		aisle api.Box
		want  bool
	}{
		{box(17, 5, 17, 5), true}, {box(16, 5, 16, 5), false}, {box(18, 5, 18, 5), false}, {box(19, 5, 19, 5), false}, {box(18, 0, 19, 9), false}, {box(0, 0, 17, 5), true}, {box(17, 5, 19, 9), true}, {box(0, 0, 16, 9), false}, {box(0, 0, 17, 4), false}, {box(0, 6, 17, 9), false}, {box(17, 4, 17, 4), false},
		{box(29, 5, 29, 5), true}, {box(28, 5, 28, 5), false}, {box(30, 5, 30, 5), false}, {box(27, 0, 28, 9), false}, {box(27, 5, 29, 9), true}, {box(29, 0, 99, 5), true}, {box(30, 0, 99, 9), false}, {box(29, 6, 29, 9), false}, {box(29, 0, 29, 4), false},
		{box(21, 5, 22, 5), false}, {box(24, 5, 25, 5), false}, {box(0, 0, 99, 4), false}, {box(0, 6, 99, 99), false},
	} {
		for _, marks := range [][]api.Mark{nil, {gap(4)}, {gap(6)}, {gap(4), gap(6)}, {gap(4), gap(5), gap(6)}, {wheel(4), beside(6, 4)}} {
			var want []api.Fault
			if !test.want {
				want = append(want, fault(api.ErrReach, 'a', -1))
			}
			h := one(rowAt('a', 20, 5, 4, 6, 3, marks...), test.aisle)
			wantOnlyFaults(t, h, want)
			h.Levels[0].Doors = []api.Point{point(9999, 0)}
			wantFaults(t, h, fault(api.ErrReach, 'a', -1))
			// by an aisle that meets it
			h.Levels[0].Aisles = append(h.Levels[0].Aisles, box(test.aisle.X, test.aisle.Y, test.aisle.X, test.aisle.Y))
			wantFaults(t, h, fault(api.ErrReach, 'a', -1))
			h.Levels[0].Doors = []api.Point{point(test.aisle.X, test.aisle.Y)}
			wantOnlyFaults(t, h, want)
		}
	}
	wantOnlyFaults(t, one(rowAt('a', 1, 5, 1, 3, 1), box(0, 5, 0, 5)), nil)
	wantFaults(t, one(rowAt('a', 1, 5, 1, 3, 2), box(0, 5, 0, 5)), fault(api.ErrReach, 'a', -1))
	wantOnlyFaults(t, one(rowAt('a', 9999, 5, 1, 1, 1), box(10000, 5, 10000, 5)), nil)
	wantFaults(t, one(rowAt('a', 10000, 5, 1, 1, 1), box(0, 5, 9998, 5)), fault(api.ErrReach, 'a', -1))
	// by an aisle of another level
	h := one(rowAt('a', 20, 5, 4, 6, 3), box(0, 0, 1, 1))
	other := one(rowAt('b', 20, 5, 4, 6, 3), box(17, 5, 17, 5)).Levels[0]
	other.Name = "M"
	h.Levels = []api.Level{other, h.Levels[0]}
	wantFaults(t, h, fault(api.ErrReach, 'a', -1))
}

// P10.1, J2.
func TestAreas(t *testing.T) {
	areas := func(rows []api.Row, areas ...api.Area) api.Hall {
		h := chapterHall(rows...)
		h.Levels[0].Areas = areas
		return h
	}
	a := []api.Row{chapterRow()} // at 3, 5 and 7, and an aisle from 0 0 to 1 9
	for _, test := range []struct {
		area api.Area
		want []api.Fault
	}{
		{areaAt('x', 0, 0, 0, 0, 1), nil},
		{areaAt('x', 1, 9, 9, 12, 1), nil},
		{areaAt('x', 2, 9, 9, 12, 1), []api.Fault{fault(api.ErrReach, 'x', -1)}},
		{areaAt('x', 1, 10, 9, 12, 1), []api.Fault{fault(api.ErrReach, 'x', -1)}},
		{areaAt('x', 0, 0, 3, 5, 1), []api.Fault{fault(api.ErrOverlap, 'x', 'a')}},
		{areaAt('x', 0, 5, 99, 99, 1), []api.Fault{fault(api.ErrOverlap, 'x', 'a')}},
		{areaAt('x', 0, 0, 99, 4, 1), nil},
		{areaAt('x', 0, 6, 99, 99, 1), nil},
		{areaAt('x', 0, 0, 2, 9, 1), nil},
		{areaAt('x', 4, 5, 4, 9, 1), []api.Fault{fault(api.ErrReach, 'x', -1)}},
		{areaAt('x', 7, 5, 9, 9, 1), []api.Fault{fault(api.ErrOverlap, 'x', 'a'), fault(api.ErrReach, 'x', -1)}},
		{areaAt('x', 8, 5, 9, 9, 1), []api.Fault{fault(api.ErrReach, 'x', -1)}},
	} {
		wantOnlyFaults(t, areas(a, test.area), test.want)
		closed := areas([]api.Row{chapterRow(gap(1), gap(2), gap(3))}, test.area)
		closed.Levels[0].Doors = nil
		wantFaults(t, closed, fault(api.ErrReach, 'a', -1), fault(api.ErrReach, 'x', -1))
		// pillars do not matter
		closed.Levels[0].Pillars = []api.Box{test.area.Box}
		wantFaults(t, closed, fault(api.ErrReach, 'a', -1), fault(api.ErrReach, 'x', -1))
	}
	wantFaults(t, areas([]api.Row{chapterRow(gap(1), gap(3))}, areaAt('x', 0, 0, 4, 9, 1), areaAt('y', 1, 0, 5, 9, 1)), fault(api.ErrOverlap, 'y', 'a'), fault(api.ErrOverlap, 'y', 'x'))
}

// P10.1, J2: all rows of the level, also those of other blocks, and earlier areas count once, in order.
func TestAreasOverlapSeveral(t *testing.T) {
	h := chapterHall(chapterRow(), rowAt('c', 2, 6, 1, 9, 1), rowAt('b', 2, 7, 1, 9, 1), rowAt('e', 2, 8, 1, 9, 1, gap(3)))
	h.Levels[0].Blocks = append(h.Levels[0].Blocks, api.Block{Name: "C", Rows: []api.Row{rowAt('d', 2, 0, 1, 9, 1)}})
	h.Levels[0].Areas = []api.Area{areaAt('z', 0, 6, 4, 20, 1), areaAt('y', 1, 1, 1, 2, 1), areaAt('x', 2, 2, 2, 2, 1), areaAt('w', 0, 0, 9, 9, 1), areaAt('v', 4, 8, 4, 8, 1), areaAt('u', 1, 3, 1, 3, 1), areaAt('t', 1, 2, 1, 3, 1)}
	wantFaults(t, h,
		fault(api.ErrOverlap, 'z', 'c'), fault(api.ErrOverlap, 'z', 'b'), fault(api.ErrOverlap, 'z', 'e'),
		fault(api.ErrReach, 'x', -1),
		fault(api.ErrOverlap, 'w', 'a'), fault(api.ErrOverlap, 'w', 'c'), fault(api.ErrOverlap, 'w', 'b'), fault(api.ErrOverlap, 'w', 'e'), fault(api.ErrOverlap, 'w', 'd'),
		fault(api.ErrOverlap, 'w', 'z'), fault(api.ErrOverlap, 'w', 'y'), fault(api.ErrOverlap, 'w', 'x'),
		fault(api.ErrOverlap, 'v', 'z'), fault(api.ErrOverlap, 'v', 'w'), fault(api.ErrReach, 'v', -1),
		fault(api.ErrOverlap, 'u', 'w'),
		fault(api.ErrOverlap, 't', 'y'), fault(api.ErrOverlap, 't', 'w'), fault(api.ErrOverlap, 't', 'u'))
	// those of other levels do not count
	other := chapterLevel(rowAt('f', 2, 6, 1, 9, 1))
	other.Name, other.At = "M", 'M'
	other.Areas = []api.Area{areaAt('s', 0, 0, 1, 9, 1)}
	last := chapterLevel()
	last.Name = "N"
	last.Areas = []api.Area{areaAt('r', 1, 0, 99, 99, 1)}
	wantOnlyFaults(t, hallOf(other, last), nil)
}

// P10.1, J2: all faults of a row, and those of several levels, in order.
func TestOrderOfFaults(t *testing.T) {
	level := func(name string) api.Level {
		l := chapterLevel(chapterRow(), rowAt('b', 5, 5, 1, 1, 2))
		l.Name = name
		l.Pillars = []api.Box{box(5, 5, 5, 5)}
		l.Areas = []api.Area{areaAt('x', 5, 5, 6, 6, 1), areaAt('y', 6, 6, 7, 7, 1)}
		l.Blocks = append(l.Blocks, api.Block{Name: "C", Rows: []api.Row{rowAt('c', 0, 5, 1, 6, 1)}})
		return l
	}
	want := []api.Fault{
		fault(api.ErrOverlap, 'a', -1),
		fault(api.ErrOverlap, 'b', 'a'), fault(api.ErrOverlap, 'b', -1), fault(api.ErrReach, 'b', -1),
		fault(api.ErrOverlap, 'c', 'a'), fault(api.ErrOverlap, 'c', 'b'), fault(api.ErrOverlap, 'c', -1), fault(api.ErrReach, 'c', -1),
		fault(api.ErrOverlap, 'x', 'a'), fault(api.ErrOverlap, 'x', 'b'), fault(api.ErrOverlap, 'x', 'c'), fault(api.ErrReach, 'x', -1),
		fault(api.ErrOverlap, 'y', 'x'), fault(api.ErrReach, 'y', -1),
	}
	wantFaults(t, hallOf(level("L")), want...)
	closed := level("N")
	closed.Doors = nil
	wantFaults(t, hallOf(level("L"), level("M"), closed), slices.Concat(want, want, []api.Fault{
		fault(api.ErrOverlap, 'a', -1), fault(api.ErrReach, 'a', -1),
	}, want[1:])...)
}

// wantOnlyFaults is for plans that may have none.
func wantOnlyFaults(t *testing.T, h api.Hall, want []api.Fault) {
	t.Helper()
	places, faults := hall.Build(h)
	if !slices.Equal(faults, want) || len(faults) > 0 && len(places) > 0 {
		t.Fatalf("%+v has the faults %+v, not %+v, and the places %+v", h, faults, want, places)
	}
}
