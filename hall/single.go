package hall

import (
	"slices"

	"foyer/api"
)

// names has the offsets of the first things with each name.
type names map[string]int

// add returns the fault of a thing whose name an earlier one has, otherwise a fault without an error.
func (n names) add(name string, at int) api.Fault {
	if first, twice := n[name]; twice {
		return api.Fault{Err: api.ErrTwice, At: at, Other: first}
	}
	n[name] = at
	return api.Fault{Err: api.OK, At: at, Other: nowhere}
}

// A singleChecker collects the faults of single things; it knows the names of the levels, of the blocks and areas of the last level, and of the rows of the last block.
type singleChecker struct {
	faults              []api.Fault
	levels, parts, rows names
}

func singleFaults(h api.Hall) []api.Fault {
	c := &singleChecker{levels: names{}}
	walk(h, c.check)
	return c.faults
}

func (c *singleChecker) check(t thing) {
	var fault api.Fault
	switch {
	case t.level != nil:
		fault = c.level(*t.level, t.levelIndex)
	case t.block != nil:
		fault = c.block(*t.block)
	case t.row != nil:
		fault = c.row(*t.row)
	case t.area != nil:
		fault = c.area(*t.area)
	}
	if fault.Err != api.OK {
		c.faults = append(c.faults, fault)
	}
}

func (c *singleChecker) level(l api.Level, index int) api.Fault {
	c.parts = names{}
	fault := c.levels.add(l.Name, l.At)
	switch {
	case fault.Err != api.OK:
	case index >= api.MaxLevels || hasTooMuch(l):
		fault.Err = api.ErrLimit
	case !isCoordinate(l.Height) || !areSolid(l.Aisles) || !areSolid(l.Pillars) || !arePoints(l.Doors):
		fault.Err = api.ErrRange
	}
	return fault
}

func (c *singleChecker) block(b api.Block) api.Fault {
	c.rows = names{}
	fault := c.parts.add(b.Name, b.At)
	if fault.Err == api.OK && len(b.Rows) > api.MaxRows {
		fault.Err = api.ErrLimit
	}
	return fault
}

func (c *singleChecker) area(a api.Area) api.Fault {
	fault := c.parts.add(a.Name, a.At)
	if fault.Err == api.OK && (!isSolid(a.Box) || a.Holds < 1 || a.Holds > api.MaxPlaces) {
		fault.Err = api.ErrRange
	}
	return fault
}

func (c *singleChecker) row(r api.Row) api.Fault {
	fault := c.rows.add(r.Name, r.At)
found:
	switch {
	case fault.Err != api.OK:
	case !hasSeats(r):
		fault.Err = api.ErrRange
	case r.To-r.From >= api.MaxSeats || len(r.Marks) > api.MaxSeats:
		fault.Err = api.ErrLimit
	default:
		for _, mark := range r.Marks {
			if mark.Kind < api.MarkGap || mark.Kind > api.MarkBeside {
				fault.Err = api.ErrArg
				break found
			}
		}
		for _, mark := range r.Marks {
			if mark.Seat < r.From || mark.Seat > r.To {
				fault.Err = api.ErrNone
				break found
			}
		}
		marks := marksOf(r)
		if len(marks) < len(r.Marks) {
			fault.Err = api.ErrTwice
			break found
		}
		for _, mark := range r.Marks {
			if mark.Kind == api.MarkBeside && marks[mark.With].Kind != api.MarkWheel {
				fault.Err = api.ErrNone
				break found
			}
		}
	}
	return fault
}

func hasTooMuch(l api.Level) bool {
	return max(len(l.Blocks)+len(l.Areas), len(l.Aisles), len(l.Pillars), len(l.Doors)) > api.MaxBlocks
}

func areSolid(boxes []api.Box) bool {
	return !slices.ContainsFunc(boxes, func(b api.Box) bool { return !isSolid(b) })
}

func arePoints(points []api.Point) bool {
	return !slices.ContainsFunc(points, func(p api.Point) bool { return !isPoint(p) })
}

// hasSeats reports whether a row has seats, all with numbers and points that are permitted.
func hasSeats(r api.Row) bool {
	if r.From < 1 || r.To < r.From || r.To > api.MaxCoord || r.Step < 1 || !isPoint(api.Point{X: r.X, Y: r.Y}) {
		return false
	}
	// The point of the last seat is not asked for, as it may be too great for an int.
	return r.From == r.To || r.Step <= (api.MaxCoord-r.X)/(r.To-r.From)
}

// marksOf returns the marks of a row by the numbers of their seats.
func marksOf(r api.Row) map[int]api.Mark {
	marks := map[int]api.Mark{}
	for _, mark := range r.Marks {
		marks[mark.Seat] = mark
	}
	return marks
}
