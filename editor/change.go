package editor

import (
	"slices"

	"typebar/api"
	"typebar/bind"
	"typebar/motion"
	"typebar/shift"
	"typebar/text"
)

// change makes scalars of a span of the line, in a group of its own, or in the newest one; false: it can't be.
func (e *Editor) change(from, to int, ins []rune, join bool) bool {
	c, err := e.line.Replace(from, to, ins)
	if err != api.OK {
		return false
	}
	e.Undo = e.Undo.Add(c.Edit, e.Cursor, join)
	e.keepMark(c.Edit)
	e.Cursor = c.Cursor
	return true
}

// keepMark brings the mark to where it is behind changes that were done.
func (e *Editor) keepMark(edits ...shift.Edit) {
	if e.Mark < 0 {
		return
	}
	for _, x := range edits {
		e.Mark = shift.Keep(x.Window(), e.Mark)
	}
	e.Mark = e.line.Floor(e.Mark)
}

// move goes along the line; false: it is there already.
func (e *Editor) move(command, n int) bool {
	was := e.Cursor
	e.Cursor, _ = motion.Move(e.line, command, was, n)
	return e.Cursor != was || n == 0 || command == bind.Begin || command == bind.End
}

// takeOut takes out what a command says: that, and whether it lay ahead of the cursor; false: there is nothing.
func (e *Editor) takeOut(command, n int) ([]rune, bool, bool) {
	span, _ := motion.Take(e.line, command, e.Cursor, e.Mark, n)
	l := e.line.Part(span.From, span.To)
	if len(l) == 0 || !e.change(span.From, span.To, nil, false) {
		return nil, false, false
	}
	return l, span.Ahead, true
}

// kill takes out what a command says, and lays it into the ring.
func (e *Editor) kill(command, n, was int) bool {
	l, ahead, ok := e.takeOut(command, n)
	if !ok {
		return false
	}
	if was == Killed {
		e.Ring = e.Ring.Join(l, ahead)
	} else {
		e.Ring = e.Ring.Add(l)
	}
	e.Last = Killed
	return true
}

// region lays what is between the mark and the cursor into the ring, and takes it out, or not.
func (e *Editor) region(command int) bool {
	if e.Mark < 0 {
		return false
	}
	span, _ := motion.Take(e.line, command, e.Cursor, e.Mark, 1)
	l := e.line.Part(span.From, span.To)
	if len(l) == 0 || command == bind.KillRegion && !e.change(span.From, span.To, nil, false) {
		return false
	}
	e.Ring = e.Ring.Add(l)
	return true
}

// put types a scalar so many times, behind what the last command was.
func (e *Editor) put(r rune, n, was int) bool {
	join := was == Typed && e.Run < Run
	if n < 1 || !e.change(e.Cursor, e.Cursor, slices.Repeat([]rune{r}, n), join) {
		return false
	}
	if join {
		e.Run++
	} else {
		e.Run = 1
	}
	e.Last = Typed
	return true
}

// yank puts the ring's top at the cursor.
func (e *Editor) yank() bool {
	l, ok := e.Ring.Top()
	if !ok || !e.change(e.Cursor, e.Cursor, l, false) {
		return false
	}
	e.Last = Yanked
	return true
}

// yankPop puts the next older text in the place of what was yanked.
func (e *Editor) yankPop(was int) bool {
	if was != Yanked || !e.undo(1) {
		return false
	}
	e.Ring = e.Ring.Turn()
	return e.yank()
}

// undo undoes so many groups; false: there are not so many.
func (e *Editor) undo(n int) bool {
	for range n {
		g, ok := e.Undo.Last()
		if !ok {
			return false
		}
		var back []shift.Edit
		for _, x := range slices.Backward(g.Edits) {
			back = append(back, x.Back())
			e.line.Do(x.Back())
		}
		e.keepMark(back...)
		e.Cursor = g.Cursor
		e.Undo = e.Undo.Drop()
	}
	return n > 0
}

// visit makes the line that one of the past; false: there is none such.
func (e *Editor) visit(i int) bool {
	p, l, ok := e.Past.Go(i, e.line.Runes())
	if !ok || !e.change(0, e.line.Size(), l, false) {
		return false
	}
	e.Past = p
	e.Cursor = e.line.Size()
	return true
}

// exchange makes the mark the cursor, and the cursor the mark; false: there is none.
func (e *Editor) exchange() bool {
	if e.Mark < 0 {
		return false
	}
	e.Cursor, e.Mark = e.Mark, e.Cursor
	return true
}

// accept tells the line, and begins an empty one.
func (e *Editor) accept() []rune {
	l := e.line.Runes()
	e.State = State{Mark: -1, Ring: e.Ring, Past: e.Past.Add(l)}
	e.line = text.New(e.tables, nil)
	return l
}

// sought takes a key while one seeks: whether that is over, and the key goes on, and whether the bell rings.
func (e *Editor) sought(k api.Key) (over, rings bool) {
	switch command := e.keys.Look(bind.Of(false, k)); command {
	case bind.Put:
		e.Search = e.Search.Type(e.tables, e.lines(), k.Rune)
	case bind.Rub:
		e.Search = e.Search.Rub(e.tables, e.lines())
	case bind.SearchBack, bind.SearchOn:
		e.Search = e.Search.Again(e.tables, e.lines(), command == bind.SearchBack)
	case bind.Abort:
		e.Seeks = false
		return false, true
	default:
		e.Seeks = false
		return true, !e.arrive()
	}
	return false, e.Search.Failed
}

// lines tells the lines that are looked at: the one that is edited, and all of the past.
func (e *Editor) lines() [][]rune {
	edited, _ := e.Past.Line(0, e.line.Runes())
	return slices.Concat([][]rune{edited}, e.Past.All())
}

// arrive goes to where the search is.
func (e *Editor) arrive() bool {
	if e.Search.At != e.Past.At() && !e.visit(e.Search.At) {
		return false
	}
	e.Cursor = e.line.Floor(e.Search.Place)
	return true
}
