package hall_test

import (
	"math"
	"math/rand/v2"
	"slices"
	"strconv"

	"foyer/api"
)

// notCoordinates are numbers that are none.
var notCoordinates = []int{-1, 10001, -2, 10002, 20000, -10000, 1 << 32, 1<<32 + 5, -1 << 32, 1 << 62, math.MaxInt, math.MinInt, math.MaxInt - 5, math.MinInt + 5}

// soundHall returns a hall without faults: its levels have an aisle from the bottom to the top, rows left and right of it, and areas that meet it further up.
func soundHall(random *rand.Rand) api.Hall {
	for {
		h := api.Hall{Name: "h", Stage: point(random.IntN(100), random.IntN(100))}
		if random.IntN(3) == 0 {
			h.Stage = point(random.IntN(10001), random.IntN(10001))
		}
		for i := range random.IntN(4) {
			h.Levels = append(h.Levels, soundLevel(random, "level"+strconv.Itoa(i)))
		}
		number(h)
		if _, faults := modelBuild(h); len(faults) == 0 {
			return h
		}
	}
}

// soundLevel returns a level whose pillars only may be in the way.
func soundLevel(random *rand.Rand, name string) api.Level {
	x := 100 + random.IntN(3000)
	trunk := box(x, 0, x+random.IntN(20), 200)
	l := api.Level{Name: name, Height: random.IntN(2000), Aisles: []api.Box{trunk}, Doors: []api.Point{point(x, random.IntN(201))}}
	if random.IntN(4) == 0 {
		l.Doors = append(l.Doors, point(random.IntN(10001), random.IntN(10001)))
	}
	if random.IntN(4) == 0 { // the door leads to an aisle that leads to the other one
		l.Doors, l.Aisles = []api.Point{point(x-50, 300)}, slices.Insert(l.Aisles, random.IntN(2), box(x-50, 200, x, 300))
	}
	y := random.IntN(3)
	for i := range random.IntN(4) {
		b := api.Block{Name: "part" + strconv.Itoa(i)}
		for j := range random.IntN(4) {
			b.Rows = append(b.Rows, soundRow(random, "row"+strconv.Itoa(j), trunk, y))
			y += 1 + random.IntN(3)
		}
		l.Blocks = append(l.Blocks, b)
	}
	for i := range random.IntN(3) {
		low := 100 + 20*i
		a := api.Area{Name: "area" + strconv.Itoa(i), Box: box(x-random.IntN(90), low, x+random.IntN(90), low+random.IntN(20)), Holds: 1 + random.IntN(5)}
		l.Areas = append(l.Areas, a)
	}
	for range random.IntN(3) {
		px, py := x-99+random.IntN(200), random.IntN(150)
		l.Pillars = append(l.Pillars, box(px, py, px+random.IntN(9), py+random.IntN(9)))
	}
	return l
}

// soundRow returns a row beside an aisle.
func soundRow(random *rand.Rand, name string, aisle api.Box, y int) api.Row {
	r := api.Row{Name: name, Y: y, From: 1 + random.IntN(5), Step: 1 + random.IntN(9)}
	if random.IntN(9) == 0 {
		r.From = 9980 + random.IntN(20)
	}
	r.To = min(10000, r.From+random.IntN(9))
	r.X = aisle.X2 + 1 + random.IntN(min(r.Step, aisle.X2-aisle.X+1))
	if random.IntN(2) == 0 {
		r.X = max(0, aisle.X-1-random.IntN(min(r.Step, aisle.X2-aisle.X+1))-(r.To-r.From)*r.Step)
	}
	if random.IntN(2) == 0 {
		r.Marks = soundMarks(random, r)
	}
	return r
}

// soundMarks returns marks for some seats of a row, in any order.
func soundMarks(random *rand.Rand, r api.Row) []api.Mark {
	var marks []api.Mark
	var wheels []int
	for s := r.From; s <= r.To; s++ {
		switch random.IntN(6) {
		case 0:
			marks = append(marks, api.Mark{Kind: api.MarkGap, Seat: s, With: random.IntN(3)})
		case 1, 2:
			marks = append(marks, api.Mark{Kind: api.MarkWheel, Seat: s, With: random.IntN(3)})
			wheels = append(wheels, s)
		case 3:
			marks = append(marks, api.Mark{Kind: api.MarkHidden, Seat: s, With: random.IntN(3)})
		}
	}
	for s := r.From; s <= r.To && len(wheels) > 0; s++ {
		if markOf(api.Row{Marks: marks}, s).Kind == 0 && random.IntN(3) > 0 {
			marks = append(marks, api.Mark{Kind: api.MarkBeside, Seat: s, With: wheels[random.IntN(len(wheels))]})
		}
	}
	random.Shuffle(len(marks), func(i, j int) { marks[i], marks[j] = marks[j], marks[i] })
	return marks
}

// crowdedHall returns a hall in little room: most have faults of several things.
func crowdedHall(random *rand.Rand) api.Hall {
	h := api.Hall{Stage: point(random.IntN(20), random.IntN(20))}
	width := 5 + random.IntN(20)
	anyBox := func() api.Box {
		x, y := random.IntN(width), random.IntN(width)
		return box(x, y, x+random.IntN(5), y+random.IntN(5))
	}
	for i := range 1 + random.IntN(2) {
		l := api.Level{Name: "level" + strconv.Itoa(i)}
		for j := range random.IntN(3) {
			b := api.Block{Name: "part" + strconv.Itoa(j)}
			for k := range random.IntN(4) {
				r := api.Row{Name: "row" + strconv.Itoa(k), X: random.IntN(width), Y: random.IntN(width), From: 1 + random.IntN(3), Step: 1 + random.IntN(4)}
				r.To = r.From + random.IntN(6)
				if random.IntN(2) == 0 {
					r.Marks = soundMarks(random, r)
				}
				b.Rows = append(b.Rows, r)
			}
			l.Blocks = append(l.Blocks, b)
		}
		for j := range random.IntN(4) {
			l.Areas = append(l.Areas, api.Area{Name: "area" + strconv.Itoa(j), Box: anyBox(), Holds: 1 + random.IntN(4)})
		}
		for range random.IntN(5) {
			l.Aisles = append(l.Aisles, anyBox())
		}
		for range random.IntN(3) {
			l.Pillars = append(l.Pillars, anyBox())
			l.Doors = append(l.Doors, point(random.IntN(width), random.IntN(width)))
		}
		h.Levels = append(h.Levels, l)
	}
	number(h)
	return h
}

// number gives all things of a hall increasing offsets.
func number(h api.Hall) {
	for i, l := range labels(h) {
		*l.at = 20 + 7*i
	}
}

// A label is the name and the offset of a thing, to be changed.
type label struct {
	name *string
	at   *int
}

// labels returns those of all things of a hall, in order.
func labels(h api.Hall) []label {
	var all []label
	for i := range h.Levels {
		l := &h.Levels[i]
		all = append(all, label{&l.Name, &l.At})
		for j := range l.Blocks {
			b := &l.Blocks[j]
			all = append(all, label{&b.Name, &b.At})
			for k := range b.Rows {
				all = append(all, label{&b.Rows[k].Name, &b.Rows[k].At})
			}
		}
		for j := range l.Areas {
			all = append(all, label{&l.Areas[j].Name, &l.Areas[j].At})
		}
	}
	return all
}

// numbersOf returns all numbers of a hall but offsets, to be changed.
func numbersOf(h *api.Hall) []*int {
	all := []*int{&h.Stage.X, &h.Stage.Y}
	for i := range h.Levels {
		l := &h.Levels[i]
		all = append(all, &l.Height)
		for j := range l.Blocks {
			for k := range l.Blocks[j].Rows {
				r := &l.Blocks[j].Rows[k]
				all = append(all, &r.X, &r.Y, &r.From, &r.To, &r.Step)
				for m := range r.Marks {
					all = append(all, &r.Marks[m].Kind, &r.Marks[m].Seat, &r.Marks[m].With)
				}
			}
		}
		for j := range l.Areas {
			all = append(append(all, boxNumbers(&l.Areas[j].Box)...), &l.Areas[j].Holds)
		}
		for j := range l.Aisles {
			all = append(all, boxNumbers(&l.Aisles[j])...)
		}
		for j := range l.Pillars {
			all = append(all, boxNumbers(&l.Pillars[j])...)
		}
		for j := range l.Doors {
			all = append(all, &l.Doors[j].X, &l.Doors[j].Y)
		}
	}
	return all
}

func boxNumbers(b *api.Box) []*int { return []*int{&b.X, &b.Y, &b.X2, &b.Y2} }

// rowsOf returns all rows of a hall, to be changed.
func rowsOf(h api.Hall) []*api.Row {
	var rows []*api.Row
	for i := range h.Levels {
		for j := range h.Levels[i].Blocks {
			for k := range h.Levels[i].Blocks[j].Rows {
				rows = append(rows, &h.Levels[i].Blocks[j].Rows[k])
			}
		}
	}
	return rows
}

// spoil changes a number, a name or a list of a hall.
func spoil(random *rand.Rand, h *api.Hall) {
	numbers, things := numbersOf(h), labels(*h)
	switch pick := random.IntN(10); {
	case pick < 3:
		*numbers[random.IntN(len(numbers))] += random.IntN(7) - 3
	case pick == 3:
		*numbers[random.IntN(len(numbers))] = notCoordinates[random.IntN(len(notCoordinates))]
	case pick == 4:
		*numbers[random.IntN(len(numbers))] = *numbers[random.IntN(len(numbers))]
	case pick == 5 && len(things) > 0:
		*things[random.IntN(len(things))].name = *things[random.IntN(len(things))].name
	case len(h.Levels) > 0:
		spoilLevel(random, &h.Levels[random.IntN(len(h.Levels))])
	}
}

func spoilLevel(random *rand.Rand, l *api.Level) {
	switch pick := random.IntN(7); {
	case pick == 0 && len(l.Doors) > 0:
		l.Doors = l.Doors[1:]
	case pick == 1 && len(l.Aisles) > 0:
		l.Aisles = l.Aisles[1:]
	case pick == 2 && len(l.Blocks) > 0:
		l.Blocks = append(l.Blocks, l.Blocks[random.IntN(len(l.Blocks))])
	case pick == 3 && len(l.Areas) > 0:
		l.Areas = append(l.Areas, l.Areas[random.IntN(len(l.Areas))])
	case pick == 4 && len(l.Blocks) > 0:
		b := &l.Blocks[random.IntN(len(l.Blocks))]
		if len(b.Rows) > 0 {
			r := copyOfRow(b.Rows[random.IntN(len(b.Rows))])
			r.Name, r.At = "copy", r.At+1
			b.Rows = append(b.Rows, r)
		}
	case pick > 4 && len(l.Blocks) > 0:
		b := &l.Blocks[random.IntN(len(l.Blocks))]
		if len(b.Rows) > 0 {
			r := &b.Rows[random.IntN(len(b.Rows))]
			r.Marks = append(r.Marks, api.Mark{Kind: random.IntN(6), Seat: r.From + random.IntN(6) - 1, With: r.From + random.IntN(6) - 1})
		}
	}
}

// copyOf returns a hall that shares no memory with another one.
func copyOf(h api.Hall) api.Hall {
	h.Levels = slices.Clone(h.Levels)
	for i := range h.Levels {
		l := &h.Levels[i]
		l.Areas, l.Aisles, l.Pillars, l.Doors = slices.Clone(l.Areas), slices.Clone(l.Aisles), slices.Clone(l.Pillars), slices.Clone(l.Doors)
		l.Blocks = slices.Clone(l.Blocks)
		for j := range l.Blocks {
			l.Blocks[j].Rows = slices.Clone(l.Blocks[j].Rows)
			for k := range l.Blocks[j].Rows {
				l.Blocks[j].Rows[k] = copyOfRow(l.Blocks[j].Rows[k])
			}
		}
	}
	return h
}

func copyOfRow(r api.Row) api.Row {
	r.Marks = slices.Clone(r.Marks)
	return r
}

// randomLevel returns a level with aisles and doors in little room, or of any numbers.
func randomLevel(random *rand.Rand) api.Level {
	width := 4 + random.IntN(30)
	coordinate := func() int {
		if random.IntN(200) == 0 {
			return int(random.Uint64()) >> random.IntN(64)
		}
		return random.IntN(width) - 2
	}
	var l api.Level
	for range random.IntN(12) {
		x, y := coordinate(), coordinate()
		b := box(x, y, x+random.IntN(6), y+random.IntN(6))
		if random.IntN(6) == 0 {
			b = box(x, y, coordinate(), coordinate())
		}
		l.Aisles = append(l.Aisles, b)
	}
	for range random.IntN(3) {
		l.Doors = append(l.Doors, point(coordinate(), coordinate()))
	}
	return l
}
