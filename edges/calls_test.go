// Package edges calls all that the chapters list, with whatever may be handed in.
package edges

import (
	"reflect"

	"typebar/ansi"
	"typebar/back"
	"typebar/bind"
	"typebar/cases"
	"typebar/columns"
	"typebar/complete"
	"typebar/compose"
	"typebar/decomp"
	"typebar/delta"
	"typebar/diff"
	"typebar/editor"
	"typebar/find"
	"typebar/flow"
	"typebar/fold"
	"typebar/gap"
	"typebar/glob"
	"typebar/glyph"
	"typebar/grid"
	"typebar/hangul"
	"typebar/index"
	"typebar/keys"
	"typebar/local"
	"typebar/loop"
	"typebar/macro"
	"typebar/model"
	"typebar/motion"
	"typebar/paint"
	"typebar/pan"
	"typebar/past"
	"typebar/quick"
	"typebar/replay"
	"typebar/report"
	"typebar/ring"
	"typebar/rows"
	"typebar/screen"
	"typebar/script"
	"typebar/seek"
	"typebar/seg"
	"typebar/session"
	"typebar/shift"
	"typebar/store"
	"typebar/tally"
	"typebar/text"
	"typebar/trie"
	"typebar/ucd"
	"typebar/undo"
	"typebar/units"
	"typebar/utf"
	"typebar/vterm"
	"typebar/word"
	"typebar/wrap"
)

// call is a function, or a method whose receiver is its first argument.
type call struct {
	name string
	f    reflect.Value
}

// calls are all that the chapters list.
func calls() []call {
	return []call{
		{"ansi.Put", reflect.ValueOf(ansi.Put)},
		{"ansi.All", reflect.ValueOf(ansi.All)},
		{"ansi.Take", reflect.ValueOf(ansi.Take)},
		{"ansi.Way", reflect.ValueOf(ansi.Way)},
		{"back.Floor", reflect.ValueOf(back.Floor)},
		{"back.Is", reflect.ValueOf(back.Is)},
		{"back.Ceil", reflect.ValueOf(back.Ceil)},
		{"back.Prev", reflect.ValueOf(back.Prev)},
		{"back.Next", reflect.ValueOf(back.Next)},
		{"bind.Of", reflect.ValueOf(bind.Of)},
		{"bind.Map.With", reflect.ValueOf((bind.Map).With)},
		{"bind.Map.Look", reflect.ValueOf((bind.Map).Look)},
		{"cases.Upper", reflect.ValueOf(cases.Upper)},
		{"cases.Lower", reflect.ValueOf(cases.Lower)},
		{"cases.Titled", reflect.ValueOf(cases.Titled)},
		{"cases.Text", reflect.ValueOf(cases.Text)},
		{"cases.Word", reflect.ValueOf(cases.Word)},
		{"columns.Width", reflect.ValueOf(columns.Width)},
		{"columns.Plan.Total", reflect.ValueOf((columns.Plan).Total)},
		{"columns.Fit", reflect.ValueOf(columns.Fit)},
		{"columns.Lay", reflect.ValueOf(columns.Lay)},
		{"columns.Plan.Go", reflect.ValueOf((columns.Plan).Go)},
		{"complete.Begins", reflect.ValueOf(complete.Begins)},
		{"complete.Common", reflect.ValueOf(complete.Common)},
		{"complete.Word", reflect.ValueOf(complete.Word)},
		{"complete.Answer.Do", reflect.ValueOf((complete.Answer).Do)},
		{"complete.Hint", reflect.ValueOf(complete.Hint)},
		{"complete.NewMenu", reflect.ValueOf(complete.NewMenu)},
		{"complete.Menu.Step", reflect.ValueOf((complete.Menu).Step)},
		{"complete.Menu.Word", reflect.ValueOf((complete.Menu).Word)},
		{"complete.Menu.Narrow", reflect.ValueOf((complete.Menu).Narrow)},
		{"complete.Menu.All", reflect.ValueOf((complete.Menu).All)},
		{"compose.Compose", reflect.ValueOf(compose.Compose)},
		{"compose.NFC", reflect.ValueOf(compose.NFC)},
		{"decomp.Full", reflect.ValueOf(decomp.Full)},
		{"decomp.Order", reflect.ValueOf(decomp.Order)},
		{"decomp.NFD", reflect.ValueOf(decomp.NFD)},
		{"decomp.Equal", reflect.ValueOf(decomp.Equal)},
		{"delta.Of", reflect.ValueOf(delta.Of)},
		{"delta.Do", reflect.ValueOf(delta.Do)},
		{"delta.Back", reflect.ValueOf(delta.Back)},
		{"delta.Cost", reflect.ValueOf(delta.Cost)},
		{"diff.Rows", reflect.ValueOf(diff.Rows)},
		{"diff.Ops", reflect.ValueOf(diff.Ops)},
		{"diff.Go", reflect.ValueOf(diff.Go)},
		{"editor.New", reflect.ValueOf(editor.New)},
		{"editor.Editor.Line", reflect.ValueOf((*editor.Editor).Line)},
		{"editor.Editor.Now", reflect.ValueOf((*editor.Editor).Now)},
		{"editor.Editor.Key", reflect.ValueOf((*editor.Editor).Key)},
		{"find.Find", reflect.ValueOf(find.Find)},
		{"find.Has", reflect.ValueOf(find.Has)},
		{"find.Nearest", reflect.ValueOf(find.Nearest)},
		{"find.All", reflect.ValueOf(find.All)},
		{"find.Replace", reflect.ValueOf(find.Replace)},
		{"flow.Of", reflect.ValueOf(flow.Of)},
		{"flow.Widest", reflect.ValueOf(flow.Widest)},
		{"flow.Find", reflect.ValueOf(flow.Find)},
		{"flow.Texts", reflect.ValueOf(flow.Texts)},
		{"fold.Key", reflect.ValueOf(fold.Key)},
		{"fold.Same", reflect.ValueOf(fold.Same)},
		{"fold.Find", reflect.ValueOf(fold.Find)},
		{"fold.Marks", reflect.ValueOf(fold.Marks)},
		{"fold.Bare", reflect.ValueOf(fold.Bare)},
		{"gap.New", reflect.ValueOf(gap.New[int])},
		{"gap.Gap.Len", reflect.ValueOf((*gap.Gap[int]).Len)},
		{"gap.Gap.At", reflect.ValueOf((*gap.Gap[int]).At)},
		{"gap.Gap.Splice", reflect.ValueOf((*gap.Gap[int]).Splice)},
		{"gap.Gap.Slice", reflect.ValueOf((*gap.Gap[int]).Slice)},
		{"gap.Gap.All", reflect.ValueOf((*gap.Gap[int]).All)},
		{"glob.Parse", reflect.ValueOf(glob.Parse)},
		{"glob.Pattern.Parts", reflect.ValueOf((glob.Pattern).Parts)},
		{"glob.Pattern.Fits", reflect.ValueOf((glob.Pattern).Fits)},
		{"glob.Pattern.Choose", reflect.ValueOf((glob.Pattern).Choose)},
		{"glyph.Width", reflect.ValueOf(glyph.Width)},
		{"glyph.Of", reflect.ValueOf(glyph.Of)},
		{"glyph.Line", reflect.ValueOf(glyph.Line)},
		{"glyph.Read", reflect.ValueOf(glyph.Read)},
		{"grid.Blank", reflect.ValueOf(grid.Blank)},
		{"grid.New", reflect.ValueOf(grid.New)},
		{"grid.Grid.Size", reflect.ValueOf((*grid.Grid).Size)},
		{"grid.Grid.At", reflect.ValueOf((*grid.Grid).At)},
		{"grid.Grid.Row", reflect.ValueOf((*grid.Grid).Row)},
		{"grid.Grid.Put", reflect.ValueOf((*grid.Grid).Put)},
		{"grid.Grid.Erase", reflect.ValueOf((*grid.Grid).Erase)},
		{"grid.Grid.Clear", reflect.ValueOf((*grid.Grid).Clear)},
		{"grid.Grid.Copy", reflect.ValueOf((*grid.Grid).Copy)},
		{"grid.Same", reflect.ValueOf(grid.Same)},
		{"hangul.Syllable", reflect.ValueOf(hangul.Syllable)},
		{"hangul.Split", reflect.ValueOf(hangul.Split)},
		{"hangul.Join", reflect.ValueOf(hangul.Join)},
		{"hangul.Second", reflect.ValueOf(hangul.Second)},
		{"index.Of", reflect.ValueOf(index.Of)},
		{"index.Index.Change", reflect.ValueOf((index.Index).Change)},
		{"index.Index.Len", reflect.ValueOf((index.Index).Len)},
		{"index.Index.Count", reflect.ValueOf((index.Index).Count)},
		{"index.Index.Start", reflect.ValueOf((index.Index).Start)},
		{"index.Index.Floor", reflect.ValueOf((index.Index).Floor)},
		{"index.Index.Ceil", reflect.ValueOf((index.Index).Ceil)},
		{"index.Index.On", reflect.ValueOf((index.Index).On)},
		{"index.Index.Starts", reflect.ValueOf((index.Index).Starts)},
		{"keys.Parser.Feed", reflect.ValueOf((keys.Parser).Feed)},
		{"keys.Parser.Tick", reflect.ValueOf((keys.Parser).Tick)},
		{"keys.Parser.Waits", reflect.ValueOf((keys.Parser).Waits)},
		{"local.Splice", reflect.ValueOf(local.Splice)},
		{"local.Narrow", reflect.ValueOf(local.Narrow)},
		{"loop.New", reflect.ValueOf(loop.New)},
		{"loop.Box.Put", reflect.ValueOf((*loop.Box).Put)},
		{"loop.Box.Next", reflect.ValueOf((*loop.Box).Next)},
		{"loop.Box.Len", reflect.ValueOf((*loop.Box).Len)},
		{"loop.Box.All", reflect.ValueOf((*loop.Box).All)},
		{"macro.Book.Set", reflect.ValueOf((macro.Book).Set)},
		{"macro.Book.Steps", reflect.ValueOf((macro.Book).Steps)},
		{"macro.Book.Names", reflect.ValueOf((macro.Book).Names)},
		{"macro.Book.Expand", reflect.ValueOf((macro.Book).Expand)},
		{"macro.Start", reflect.ValueOf(macro.Start)},
		{"macro.Recorder.Strike", reflect.ValueOf((macro.Recorder).Strike)},
		{"macro.Recorder.Stop", reflect.ValueOf((macro.Recorder).Stop)},
		{"model.Of", reflect.ValueOf(model.Of)},
		{"model.Line.Runes", reflect.ValueOf((model.Line).Runes)},
		{"model.Line.Place", reflect.ValueOf((model.Line).Place)},
		{"model.Line.Put", reflect.ValueOf((model.Line).Put)},
		{"model.Line.On", reflect.ValueOf((model.Line).On)},
		{"model.Line.Word", reflect.ValueOf((model.Line).Word)},
		{"motion.Move", reflect.ValueOf(motion.Move)},
		{"motion.Take", reflect.ValueOf(motion.Take)},
		{"motion.Swap", reflect.ValueOf(motion.Swap)},
		{"motion.Match", reflect.ValueOf(motion.Match)},
		{"paint.New", reflect.ValueOf(paint.New)},
		{"paint.Painter.Size", reflect.ValueOf((paint.Painter).Size)},
		{"paint.Painter.Paint", reflect.ValueOf((paint.Painter).Paint)},
		{"pan.Choose", reflect.ValueOf(pan.Choose)},
		{"pan.Row", reflect.ValueOf(pan.Row)},
		{"past.Past.Add", reflect.ValueOf((past.Past).Add)},
		{"past.Past.Len", reflect.ValueOf((past.Past).Len)},
		{"past.Past.At", reflect.ValueOf((past.Past).At)},
		{"past.Past.Line", reflect.ValueOf((past.Past).Line)},
		{"past.Past.Go", reflect.ValueOf((past.Past).Go)},
		{"past.Past.All", reflect.ValueOf((past.Past).All)},
		{"past.Past.Expand", reflect.ValueOf((past.Past).Expand)},
		{"quick.Of", reflect.ValueOf(quick.Of)},
		{"quick.Check", reflect.ValueOf(quick.Check)},
		{"quick.Composed", reflect.ValueOf(quick.Composed)},
		{"quick.Stable", reflect.ValueOf(quick.Stable)},
		{"quick.Points", reflect.ValueOf(quick.Points)},
		{"replay.Of", reflect.ValueOf(replay.Of)},
		{"replay.Play.Right", reflect.ValueOf((replay.Play).Right)},
		{"replay.Play.Sent", reflect.ValueOf((replay.Play).Sent)},
		{"replay.Play.Bells", reflect.ValueOf((replay.Play).Bells)},
		{"report.Quote", reflect.ValueOf(report.Quote)},
		{"report.Of", reflect.ValueOf(report.Of)},
		{"report.Text", reflect.ValueOf(report.Text)},
		{"ring.Ring.Add", reflect.ValueOf((ring.Ring).Add)},
		{"ring.Ring.Join", reflect.ValueOf((ring.Ring).Join)},
		{"ring.Ring.Top", reflect.ValueOf((ring.Ring).Top)},
		{"ring.Ring.Turn", reflect.ValueOf((ring.Ring).Turn)},
		{"ring.Ring.All", reflect.ValueOf((ring.Ring).All)},
		{"rows.Of", reflect.ValueOf(rows.Of)},
		{"rows.At", reflect.ValueOf(rows.At)},
		{"rows.Size", reflect.ValueOf(rows.Size)},
		{"rows.Kinds", reflect.ValueOf(rows.Kinds)},
		{"screen.Of", reflect.ValueOf(screen.Of)},
		{"screen.Same", reflect.ValueOf(screen.Same)},
		{"screen.Screen.Text", reflect.ValueOf((screen.Screen).Text)},
		{"script.Parse", reflect.ValueOf(script.Parse)},
		{"script.Print", reflect.ValueOf(script.Print)},
		{"script.Bytes", reflect.ValueOf(script.Bytes)},
		{"seek.Begin", reflect.ValueOf(seek.Begin)},
		{"seek.Search.Type", reflect.ValueOf((seek.Search).Type)},
		{"seek.Search.Rub", reflect.ValueOf((seek.Search).Rub)},
		{"seek.Search.Again", reflect.ValueOf((seek.Search).Again)},
		{"seg.State.Step", reflect.ValueOf((seg.State).Step)},
		{"seg.Starts", reflect.ValueOf(seg.Starts)},
		{"seg.Next", reflect.ValueOf(seg.Next)},
		{"seg.Clusters", reflect.ValueOf(seg.Clusters)},
		{"session.New", reflect.ValueOf(session.New)},
		{"session.Session.View", reflect.ValueOf((*session.Session).View)},
		{"session.Session.Screen", reflect.ValueOf((*session.Session).Screen)},
		{"session.Session.Feed", reflect.ValueOf((*session.Session).Feed)},
		{"session.Session.Lines", reflect.ValueOf((*session.Session).Lines)},
		{"session.Session.Line", reflect.ValueOf((*session.Session).Line)},
		{"session.Session.Now", reflect.ValueOf((*session.Session).Now)},
		{"shift.Keep", reflect.ValueOf(shift.Keep)},
		{"shift.After", reflect.ValueOf(shift.After)},
		{"shift.Of", reflect.ValueOf(shift.Of)},
		{"shift.Edit.Window", reflect.ValueOf((shift.Edit).Window)},
		{"shift.Edit.Back", reflect.ValueOf((shift.Edit).Back)},
		{"shift.Edit.Do", reflect.ValueOf((shift.Edit).Do)},
		{"store.Entry", reflect.ValueOf(store.Entry)},
		{"store.Append", reflect.ValueOf(store.Append)},
		{"store.Read", reflect.ValueOf(store.Read)},
		{"store.Past", reflect.ValueOf(store.Past)},
		{"store.All", reflect.ValueOf(store.All)},
		{"store.Trim", reflect.ValueOf(store.Trim)},
		{"store.Merge", reflect.ValueOf(store.Merge)},
		{"tally.Of", reflect.ValueOf(tally.Of)},
		{"tally.Tally.Bound", reflect.ValueOf((tally.Tally).Bound)},
		{"tally.Tally.Add", reflect.ValueOf((tally.Tally).Add)},
		{"text.New", reflect.ValueOf(text.New)},
		{"text.Text.Runes", reflect.ValueOf((*text.Text).Runes)},
		{"text.Text.Size", reflect.ValueOf((*text.Text).Size)},
		{"text.Text.Replace", reflect.ValueOf((*text.Text).Replace)},
		{"text.Text.Do", reflect.ValueOf((*text.Text).Do)},
		{"text.Text.Floor", reflect.ValueOf((*text.Text).Floor)},
		{"text.Text.On", reflect.ValueOf((*text.Text).On)},
		{"text.Text.Word", reflect.ValueOf((*text.Text).Word)},
		{"text.Text.Starts", reflect.ValueOf((*text.Text).Starts)},
		{"text.Text.Part", reflect.ValueOf((*text.Text).Part)},
		{"trie.Build", reflect.ValueOf(trie.Build[int])},
		{"trie.Trie.Get", reflect.ValueOf((*trie.Trie[int]).Get)},
		{"trie.Trie.Len", reflect.ValueOf((*trie.Trie[int]).Len)},
		{"trie.Trie.Blocks", reflect.ValueOf((*trie.Trie[int]).Blocks)},
		{"trie.Trie.Pieces", reflect.ValueOf((*trie.Trie[int]).Pieces)},
		{"ucd.Build", reflect.ValueOf(ucd.Build)},
		{"ucd.Tables.Class", reflect.ValueOf((*ucd.Tables).Class)},
		{"ucd.Tables.Pair", reflect.ValueOf((*ucd.Tables).Pair)},
		{"ucd.Tables.Out", reflect.ValueOf((*ucd.Tables).Out)},
		{"ucd.Tables.Compose", reflect.ValueOf((*ucd.Tables).Compose)},
		{"ucd.Tables.Second", reflect.ValueOf((*ucd.Tables).Second)},
		{"ucd.Tables.Break", reflect.ValueOf((*ucd.Tables).Break)},
		{"ucd.Tables.Conj", reflect.ValueOf((*ucd.Tables).Conj)},
		{"ucd.Tables.Pict", reflect.ValueOf((*ucd.Tables).Pict)},
		{"ucd.Tables.Wide", reflect.ValueOf((*ucd.Tables).Wide)},
		{"ucd.Tables.Letter", reflect.ValueOf((*ucd.Tables).Letter)},
		{"undo.Stack.Add", reflect.ValueOf((undo.Stack).Add)},
		{"undo.Stack.Last", reflect.ValueOf((undo.Stack).Last)},
		{"undo.Stack.Drop", reflect.ValueOf((undo.Stack).Drop)},
		{"undo.Stack.Len", reflect.ValueOf((undo.Stack).Len)},
		{"undo.Group.Undo", reflect.ValueOf((undo.Group).Undo)},
		{"undo.Stack.All", reflect.ValueOf((undo.Stack).All)},
		{"units.Of", reflect.ValueOf(units.Of)},
		{"units.Map.Len", reflect.ValueOf((units.Map).Len)},
		{"units.Map.At", reflect.ValueOf((units.Map).At)},
		{"units.Map.Turn", reflect.ValueOf((units.Map).Turn)},
		{"units.Tabs", reflect.ValueOf(units.Tabs)},
		{"utf.Valid", reflect.ValueOf(utf.Valid)},
		{"utf.Size", reflect.ValueOf(utf.Size)},
		{"utf.Put", reflect.ValueOf(utf.Put)},
		{"utf.Encode", reflect.ValueOf(utf.Encode)},
		{"utf.Decoder.Feed", reflect.ValueOf((utf.Decoder).Feed)},
		{"utf.Decoder.End", reflect.ValueOf((utf.Decoder).End)},
		{"utf.Decoder.Pending", reflect.ValueOf((utf.Decoder).Pending)},
		{"utf.Decode", reflect.ValueOf(utf.Decode)},
		{"vterm.New", reflect.ValueOf(vterm.New)},
		{"vterm.Term.Resize", reflect.ValueOf((*vterm.Term).Resize)},
		{"vterm.Term.Write", reflect.ValueOf((*vterm.Term).Write)},
		{"vterm.Term.Screen", reflect.ValueOf((*vterm.Term).Screen)},
		{"vterm.Term.Bells", reflect.ValueOf((*vterm.Term).Bells)},
		{"word.Forward", reflect.ValueOf(word.Forward)},
		{"word.Back", reflect.ValueOf(word.Back)},
		{"word.Words", reflect.ValueOf(word.Words)},
		{"word.Split", reflect.ValueOf(word.Split)},
		{"word.Quote", reflect.ValueOf(word.Quote)},
		{"wrap.Place", reflect.ValueOf(wrap.Place)},
		{"wrap.Lay", reflect.ValueOf(wrap.Lay)},
		{"wrap.Top", reflect.ValueOf(wrap.Top)},
	}
}
