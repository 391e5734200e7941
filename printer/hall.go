package printer

import "foyer/api"

// A hallWriter writes a hall.
type hallWriter struct {
	writer
}

func (w *hallWriter) hall(hall api.Hall) {
	w.word("hall")
	w.names(hall.Name)
	w.word("stage")
	w.numbers(hall.Stage.X, hall.Stage.Y)
	w.begin()
	for _, level := range hall.Levels {
		w.level(level)
	}
	w.end()
}

func (w *hallWriter) level(level api.Level) {
	w.word("level")
	w.names(level.Name)
	w.word("height")
	w.numbers(level.Height)
	w.begin()
	for _, block := range level.Blocks {
		w.block(block)
	}
	for _, area := range level.Areas {
		w.area(area)
	}
	for _, aisle := range level.Aisles {
		w.word("aisle")
		w.box(aisle)
		w.line(";")
	}
	for _, pillar := range level.Pillars {
		w.word("pillar")
		w.box(pillar)
		w.line(";")
	}
	for _, door := range level.Doors {
		w.word("door")
		w.numbers(door.X, door.Y)
		w.line(";")
	}
	w.end()
}

func (w *hallWriter) block(block api.Block) {
	w.word("block")
	w.names(block.Name)
	w.begin()
	for _, row := range block.Rows {
		w.row(row)
	}
	w.end()
}

func (w *hallWriter) row(row api.Row) {
	w.word("row")
	w.names(row.Name)
	w.word("at")
	w.numbers(row.X, row.Y)
	w.word("seats")
	w.numbers(row.From)
	w.word("to")
	w.numbers(row.To)
	w.word("step")
	w.numbers(row.Step)
	for _, mark := range row.Marks {
		w.mark(mark)
	}
	w.line(";")
}

func (w *hallWriter) mark(mark api.Mark) {
	words := [...]string{
		api.MarkGap:    "gap",
		api.MarkWheel:  "wheel",
		api.MarkHidden: "hidden",
		api.MarkBeside: "beside",
	}
	w.oneOf(words[:], mark.Kind)
	w.numbers(mark.Seat)
	if mark.Kind != api.MarkBeside {
		w.require(mark.With == 0)
		return
	}
	w.word("of")
	w.numbers(mark.With)
}

func (w *hallWriter) area(area api.Area) {
	w.word("area")
	w.names(area.Name)
	w.box(area.Box)
	w.word("holds")
	w.numbers(area.Holds)
	w.line(";")
}

func (w *hallWriter) box(box api.Box) {
	w.numbers(box.X, box.Y, box.X2, box.Y2)
}
