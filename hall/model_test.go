package hall_test

import (
	"math/big"

	"foyer/api"
	"foyer/sight"
)

// The model follows the chapter's words one by one, and looks at every pair of things.

// modelReached marks aisles until nothing changes any more.
func modelReached(l api.Level) []bool {
	reached := make([]bool, len(l.Aisles))
	for i, aisle := range l.Aisles {
		for _, door := range l.Doors {
			reached[i] = reached[i] || contains(aisle, door)
		}
	}
	for changed := true; changed; {
		changed = false
		for i, aisle := range l.Aisles {
			for j, other := range l.Aisles {
				if !reached[i] && reached[j] && touch(aisle, other) {
					reached[i], changed = true, true
				}
			}
		}
	}
	return reached
}

func contains(b api.Box, p api.Point) bool {
	return p.X >= b.X && p.X <= b.X2 && p.Y >= b.Y && p.Y <= b.Y2
}

func isEmpty(b api.Box) bool { return b.X > b.X2 || b.Y > b.Y2 }

func touch(a, b api.Box) bool {
	if isEmpty(a) || isEmpty(b) {
		return false
	}
	return !(a.X2 < b.X || b.X2 < a.X || a.Y2 < b.Y || b.Y2 < a.Y)
}

func areCoordinates(numbers ...int) bool {
	for _, n := range numbers {
		if n < 0 || n > 10000 {
			return false
		}
	}
	return true
}

func isBad(b api.Box) bool { return !areCoordinates(b.X, b.Y, b.X2, b.Y2) || isEmpty(b) }

// modelBuild returns what Build should.
func modelBuild(h api.Hall) ([]api.Place, []api.Fault) {
	if faults := modelSingle(h); len(faults) > 0 {
		return nil, faults
	}
	if !areCoordinates(h.Stage.X, h.Stage.Y) {
		return nil, []api.Fault{{Err: api.ErrRange, At: -1, Other: -1}}
	}
	count := 0
	for _, l := range h.Levels {
		for _, b := range l.Blocks {
			for _, r := range b.Rows {
				count += len(modelPoints(r))
			}
		}
		for _, a := range l.Areas {
			count += a.Holds
		}
	}
	if count > 4000 {
		return nil, []api.Fault{{Err: api.ErrLimit, At: -1, Other: -1}}
	}
	if faults := modelSeveral(h); len(faults) > 0 {
		return nil, faults
	}
	return modelPlaces(h), nil
}

func modelSingle(h api.Hall) []api.Fault {
	var faults []api.Fault
	add := func(at int, fault api.Fault) {
		fault.At = at
		if fault.Err != api.OK {
			faults = append(faults, fault)
		}
	}
	for i, l := range h.Levels {
		add(l.At, modelLevel(h, i))
		for j, b := range l.Blocks {
			add(b.At, modelBlock(l, j))
			for k, r := range b.Rows {
				add(r.At, modelRow(b, k))
			}
		}
		for j, a := range l.Areas {
			add(a.At, modelArea(l, j))
		}
	}
	return faults
}

func modelLevel(h api.Hall, i int) api.Fault {
	l := h.Levels[i]
	for _, earlier := range h.Levels[:i] {
		if earlier.Name == l.Name {
			return api.Fault{Err: api.ErrTwice, Other: earlier.At}
		}
	}
	if i > 7 || len(l.Blocks)+len(l.Areas) > 40 || len(l.Aisles) > 40 || len(l.Pillars) > 40 || len(l.Doors) > 40 {
		return api.Fault{Err: api.ErrLimit, Other: -1}
	}
	bad := !areCoordinates(l.Height)
	for _, aisle := range l.Aisles {
		bad = bad || isBad(aisle)
	}
	for _, pillar := range l.Pillars {
		bad = bad || isBad(pillar)
	}
	for _, door := range l.Doors {
		bad = bad || !areCoordinates(door.X, door.Y)
	}
	if bad {
		return api.Fault{Err: api.ErrRange, Other: -1}
	}
	return api.Fault{}
}

func modelBlock(l api.Level, j int) api.Fault {
	for _, earlier := range l.Blocks[:j] {
		if earlier.Name == l.Blocks[j].Name {
			return api.Fault{Err: api.ErrTwice, Other: earlier.At}
		}
	}
	if len(l.Blocks[j].Rows) > 60 {
		return api.Fault{Err: api.ErrLimit, Other: -1}
	}
	return api.Fault{}
}

func modelArea(l api.Level, j int) api.Fault {
	a := l.Areas[j]
	for _, b := range l.Blocks {
		if b.Name == a.Name {
			return api.Fault{Err: api.ErrTwice, Other: b.At}
		}
	}
	for _, earlier := range l.Areas[:j] {
		if earlier.Name == a.Name {
			return api.Fault{Err: api.ErrTwice, Other: earlier.At}
		}
	}
	if isBad(a.Box) || a.Holds < 1 || a.Holds > 4000 {
		return api.Fault{Err: api.ErrRange, Other: -1}
	}
	return api.Fault{}
}

func modelRow(b api.Block, k int) api.Fault {
	r := b.Rows[k]
	for _, earlier := range b.Rows[:k] {
		if earlier.Name == r.Name {
			return api.Fault{Err: api.ErrTwice, Other: earlier.At}
		}
	}
	if r.From < 1 || r.To < r.From || r.To > 10000 || r.Step < 1 || !areCoordinates(r.X, r.Y) || endsOutside(r) {
		return api.Fault{Err: api.ErrRange, Other: -1}
	}
	if r.To-r.From+1 > 60 || len(r.Marks) > 60 {
		return api.Fault{Err: api.ErrLimit, Other: -1}
	}
	return api.Fault{Err: modelMarks(r), Other: -1}
}

// endsOutside computes the point of the last seat with numbers of any size.
func endsOutside(r api.Row) bool {
	x := big.NewInt(int64(r.To))
	x.Sub(x, big.NewInt(int64(r.From)))
	x.Mul(x, big.NewInt(int64(r.Step)))
	x.Add(x, big.NewInt(int64(r.X)))
	return x.Sign() < 0 || x.Cmp(big.NewInt(10000)) > 0
}

func modelMarks(r api.Row) api.Errno {
	for _, m := range r.Marks {
		if m.Kind != api.MarkGap && m.Kind != api.MarkWheel && m.Kind != api.MarkHidden && m.Kind != api.MarkBeside {
			return api.ErrArg
		}
	}
	for _, m := range r.Marks {
		if m.Seat < r.From || m.Seat > r.To {
			return api.ErrNone
		}
	}
	for i, m := range r.Marks {
		for _, other := range r.Marks[:i] {
			if m.Seat == other.Seat {
				return api.ErrTwice
			}
		}
	}
	for _, m := range r.Marks {
		found := m.Kind != api.MarkBeside
		for _, other := range r.Marks {
			found = found || other.Kind == api.MarkWheel && other.Seat == m.With
		}
		if !found {
			return api.ErrNone
		}
	}
	return api.OK
}

func markOf(r api.Row, seat int) api.Mark {
	for _, m := range r.Marks {
		if m.Seat == seat {
			return m
		}
	}
	return api.Mark{}
}

// modelPoints returns the points of the places of a row.
func modelPoints(r api.Row) []api.Point {
	var points []api.Point
	for s := r.From; s <= r.To; s++ {
		if markOf(r, s).Kind != api.MarkGap {
			points = append(points, api.Point{X: r.X + (s-r.From)*r.Step, Y: r.Y})
		}
	}
	return points
}

func modelSeveral(h api.Hall) []api.Fault {
	var faults []api.Fault
	for _, l := range h.Levels {
		var reached []api.Box
		for i, is := range modelReached(l) {
			if is {
				reached = append(reached, l.Aisles[i])
			}
		}
		var rows []api.Row
		for _, b := range l.Blocks {
			for _, r := range b.Rows {
				faults = append(faults, modelRowBesides(l, reached, rows, r)...)
				rows = append(rows, r)
			}
		}
		for j, a := range l.Areas {
			faults = append(faults, modelAreaBesides(reached, rows, l.Areas[:j], a)...)
		}
	}
	return faults
}

func modelRowBesides(l api.Level, reached []api.Box, rows []api.Row, r api.Row) []api.Fault {
	var faults []api.Fault
	for _, earlier := range rows {
		if shareAPoint(earlier, r) {
			faults = append(faults, api.Fault{Err: api.ErrOverlap, At: r.At, Other: earlier.At})
		}
	}
	blocked := false
	for _, p := range modelPoints(r) {
		for _, pillar := range l.Pillars {
			blocked = blocked || contains(pillar, p)
		}
		for _, aisle := range l.Aisles {
			blocked = blocked || contains(aisle, p)
		}
	}
	if blocked {
		faults = append(faults, api.Fault{Err: api.ErrOverlap, At: r.At, Other: -1})
	}
	for _, aisle := range reached {
		// A step that leads beyond the greatest coordinate leads to no aisle.
		if contains(aisle, api.Point{X: r.X - r.Step, Y: r.Y}) {
			return faults
		}
		if r.Step <= 10000 && contains(aisle, api.Point{X: r.X + (r.To-r.From+1)*r.Step, Y: r.Y}) {
			return faults
		}
	}
	return append(faults, api.Fault{Err: api.ErrReach, At: r.At, Other: -1})
}

func shareAPoint(a, b api.Row) bool {
	for _, p := range modelPoints(a) {
		for _, q := range modelPoints(b) {
			if p == q {
				return true
			}
		}
	}
	return false
}

func modelAreaBesides(reached []api.Box, rows []api.Row, areas []api.Area, a api.Area) []api.Fault {
	var faults []api.Fault
	for _, r := range rows {
		inside := false
		for _, p := range modelPoints(r) {
			inside = inside || contains(a.Box, p)
		}
		if inside {
			faults = append(faults, api.Fault{Err: api.ErrOverlap, At: a.At, Other: r.At})
		}
	}
	for _, earlier := range areas {
		if touch(earlier.Box, a.Box) {
			faults = append(faults, api.Fault{Err: api.ErrOverlap, At: a.At, Other: earlier.At})
		}
	}
	for _, aisle := range reached {
		if touch(aisle, a.Box) {
			return faults
		}
	}
	return append(faults, api.Fault{Err: api.ErrReach, At: a.At, Other: -1})
}

// modelPlaces looks for companions when all places are there.
func modelPlaces(h api.Hall) []api.Place {
	var places []api.Place
	for i, l := range h.Levels {
		for j, b := range l.Blocks {
			for k, r := range b.Rows {
				for s := r.From; s <= r.To; s++ {
					if markOf(r, s).Kind != api.MarkGap {
						places = append(places, modelSeat(h, i, j, k, s))
					}
				}
			}
		}
		for j, a := range l.Areas {
			x, y := (a.Box.X+a.Box.X2)/2, (a.Box.Y+a.Box.Y2)/2
			view := sight.View(h, i, api.Point{X: x, Y: y})
			for s := 1; s <= a.Holds; s++ {
				places = append(places, api.Place{Kind: api.PlaceStand, Level: i, Block: len(l.Blocks) + j, Row: -1, Seat: s, X: x, Y: y, View: view, With: -1})
			}
		}
	}
	for n, p := range places {
		places[n].With = -1
		if p.Kind != api.PlaceWheel && p.Kind != api.PlaceBeside {
			continue
		}
		r := h.Levels[p.Level].Blocks[p.Block].Rows[p.Row]
		for m := len(places) - 1; m >= 0; m-- {
			q := places[m]
			if q.Level != p.Level || q.Block != p.Block || q.Row != p.Row {
				continue
			}
			if p.Kind == api.PlaceBeside && q.Seat == markOf(r, p.Seat).With {
				places[n].With = m
			}
			if p.Kind == api.PlaceWheel && q.Kind == api.PlaceBeside && markOf(r, q.Seat).With == p.Seat {
				places[n].With = m
			}
		}
	}
	return places
}

func modelSeat(h api.Hall, i, j, k, s int) api.Place {
	r := h.Levels[i].Blocks[j].Rows[k]
	place := api.Place{Level: i, Block: j, Row: k, Seat: s, X: r.X + (s-r.From)*r.Step, Y: r.Y}
	place.View = sight.View(h, i, api.Point{X: place.X, Y: place.Y})
	switch markOf(r, s).Kind {
	case api.MarkWheel:
		place.Kind = api.PlaceWheel
	case api.MarkBeside:
		place.Kind = api.PlaceBeside
	case api.MarkHidden:
		place.View = max(2, place.View)
	}
	return place
}
