package hall

import "foyer/api"

// A thing is a level, a block, a row or an area: the one that is not nil. The indices are those of its places.
type thing struct {
	level *api.Level
	block *api.Block
	row   *api.Row
	area  *api.Area

	levelIndex, blockIndex, rowIndex int
}

// walk visits the things of a plan in their order.
func walk(h api.Hall, visit func(thing)) {
	for i := range h.Levels {
		level := &h.Levels[i]
		visit(thing{level: level, levelIndex: i})
		for j := range level.Blocks {
			block := &level.Blocks[j]
			visit(thing{block: block, levelIndex: i, blockIndex: j})
			for k := range block.Rows {
				visit(thing{row: &block.Rows[k], levelIndex: i, blockIndex: j, rowIndex: k})
			}
		}
		for j := range level.Areas {
			visit(thing{area: &level.Areas[j], levelIndex: i, blockIndex: len(level.Blocks) + j, rowIndex: -1})
		}
	}
}

func isCoordinate(n int) bool { return n >= 0 && n <= api.MaxCoord }

func isPoint(p api.Point) bool { return isCoordinate(p.X) && isCoordinate(p.Y) }

// isSolid reports whether the numbers of a rectangle are coordinates, and it contains a point.
func isSolid(b api.Box) bool {
	return isPoint(api.Point{X: b.X, Y: b.Y}) && isPoint(api.Point{X: b.X2, Y: b.Y2}) && b.X <= b.X2 && b.Y <= b.Y2
}

// meet reports whether two rectangles have a point in common; one without points has none in common with any.
func meet(a, b api.Box) bool {
	return max(a.X, b.X) <= min(a.X2, b.X2) && max(a.Y, b.Y) <= min(a.Y2, b.Y2)
}

// boxOf returns the rectangle that contains one point only.
func boxOf(p api.Point) api.Box { return api.Box{X: p.X, Y: p.Y, X2: p.X, Y2: p.Y} }

// seatPoint returns the point of a seat, or of one that the row would have if it went on.
// Where that is too great for an int, the row has one seat, and the X that comes out is negative: no coordinate either.
func seatPoint(r api.Row, seat int) api.Point {
	return api.Point{X: r.X + (seat-r.From)*r.Step, Y: r.Y}
}
