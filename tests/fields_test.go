package tests

import (
	"cmp"
	"math"
	"reflect"
	"slices"
	"testing"

	"loop.example/hideandseek/impl"
)

// fieldsUpTo are all fields of at most so many rows and columns.
func fieldsUpTo(side int) []impl.Field {
	var list []impl.Field
	for rows := 1; rows <= side; rows++ {
		for columns := 1; columns <= side; columns++ {
			for cells := 1; cells < 1<<(rows*columns); cells++ {
				list = append(list, impl.Field{Rows: rows, Columns: columns, Cells: cells})
			}
		}
	}
	return list
}

// someFields are all fields of at most three rows and columns, those of one row or one column, and some larger ones.
func someFields() []impl.Field {
	list := fieldsUpTo(3)
	for cells := 1; cells < 1<<4; cells++ {
		list = append(list, impl.Field{Rows: 1, Columns: 4, Cells: cells}, impl.Field{Rows: 4, Columns: 1, Cells: cells})
	}
	for cells := 1; cells < 1<<12; cells += 101 {
		list = append(list, impl.Field{Rows: 3, Columns: 4, Cells: cells}, impl.Field{Rows: 4, Columns: 3, Cells: cells})
	}
	for _, cells := range []int{1, 1 << 15, 0xF, 0xF0, 0xF000, 0x1111, 0x8888, 0x111F, 0x8421, 0x1248, 0xFFFE, 0x7FFF, 0xFFFF} {
		list = append(list, impl.Field{Rows: 4, Columns: 4, Cells: cells})
	}
	return list
}

// fieldOf is the field of these allowed cells.
func fieldOf(rows int, columns int, cells ...int) impl.Field {
	f := impl.Field{Rows: rows, Columns: columns}
	for _, cell := range cells {
		f.Cells |= 1 << cell
	}
	return f
}

// wholeField is the field of which all cells are allowed.
func wholeField(rows int, columns int) impl.Field {
	return impl.Field{Rows: rows, Columns: columns, Cells: 1<<(rows*columns) - 1}
}

// turnedField is the field with rows for columns.
func turnedField(f impl.Field) impl.Field {
	var cells []int
	for _, cell := range bitsOf(f.Cells) {
		cells = append(cells, cell%f.Columns*f.Rows+cell/f.Columns)
	}
	return fieldOf(f.Columns, f.Rows, cells...)
}

// farSides are numbers of rows or columns, of which 1 to 4 are among the near ones.
func farSides() []int {
	sides := slices.Clone(farNumbers)
	for near := -20; near <= 20; near++ {
		sides = append(sides, near)
	}
	return sides
}

// noCells are numbers that tell no allowed cells for a field of so many cells.
func noCells(many int) []int {
	end := 1 << many
	list := []int{0, -1, -2, -3, -4, -end, 1 - end, -end - 1, end, end + 1, 2*end - 1, 2 * end, 2*end + 1, 3*end - 1, 4*end + 1, 1 << 16, 1<<16 + 1, 1<<17 - 1, math.MaxInt - end, math.MinInt + end - 1}
	for at := many; at < 30; at++ {
		list = append(list, 1<<at, 1<<at|1, -1<<at, -1<<at|1)
	}
	for _, far := range farNumbers {
		if far < 1 || far >= end {
			list = append(list, far)
		}
	}
	return list
}

// noFields have no rows or columns, too many or fewer than none, or cells that are none or not their own.
func noFields() []impl.Field {
	var list []impl.Field
	for _, rows := range farSides() {
		for _, columns := range farSides() {
			if rows >= 1 && rows <= 4 && columns >= 1 && columns <= 4 {
				continue
			}
			for _, cells := range []int{-1, 0, 1, 2, 15, 65535} {
				list = append(list, impl.Field{Rows: rows, Columns: columns, Cells: cells})
			}
		}
	}
	for rows := 1; rows <= 4; rows++ {
		for columns := 1; columns <= 4; columns++ {
			for _, cells := range noCells(rows * columns) {
				list = append(list, impl.Field{Rows: rows, Columns: columns, Cells: cells})
			}
		}
	}
	return append(list, impl.Field{}, impl.Field{Rows: math.MinInt, Columns: math.MinInt, Cells: math.MinInt}, impl.Field{Rows: math.MaxInt, Columns: math.MaxInt, Cells: math.MaxInt})
}

// fieldGameByHand asks of each line whether it has the cell.
func fieldGameByHand(f impl.Field) [][]int {
	cells := bitsOf(f.Cells)
	return gameOf(f.Rows+f.Columns, len(cells), func(line int, at int) int {
		if line < f.Rows {
			return oneOrNone(cells[at]/f.Columns == line)
		}
		return oneOrNone(cells[at]%f.Columns == line-f.Rows)
	})
}

// side is how many rows and columns a field has.
type side struct{ rows, columns int }

// sideByHand has what was found by trying all sets of cells, and all sets of rows and columns, of fields with such a side.
type sideByHand struct {
	apart  []tried
	looked []tried
}

// tried is a list of cells, or of rows and columns, and the set of cells that it has or shows.
type tried struct {
	list  []int
	cells int
}

// allSides tries all sets for all sides. Of the lists of cells that are apart longer ones are first, and else those that are first in the order of rows of numbers; of the lists of rows and columns shorter ones, and else those of the lesser sum.
func allSides() map[side]sideByHand {
	sides := map[side]sideByHand{}
	for rows := 1; rows <= 4; rows++ {
		for columns := 1; columns <= 4; columns++ {
			var by sideByHand
			for set := range 1 << (rows * columns) {
				if list := bitsOf(set); apartByHand(list, columns) {
					by.apart = append(by.apart, tried{list, set})
				}
			}
			slices.SortFunc(by.apart, func(a tried, b tried) int {
				return cmp.Or(cmp.Compare(len(b.list), len(a.list)), slices.Compare(a.list, b.list))
			})
			for set := range 1 << (rows + columns) {
				list := bitsOf(set)
				by.looked = append(by.looked, tried{list, shownByLines(list, rows, columns)})
			}
			slices.SortStableFunc(by.looked, func(a tried, b tried) int { return cmp.Compare(len(a.list), len(b.list)) })
			sides[side{rows, columns}] = by
		}
	}
	return sides
}

// apartByHand tells whether no two cells are in one row or in one column.
func apartByHand(cells []int, columns int) bool {
	for i, a := range cells {
		for _, b := range cells[:i] {
			if a/columns == b/columns || a%columns == b%columns {
				return false
			}
		}
	}
	return true
}

// shownByLines is the set of all cells that rows and columns show.
func shownByLines(lines []int, rows int, columns int) int {
	cells := 0
	for cell := range rows * columns {
		if slices.Contains(lines, cell/columns) || slices.Contains(lines, rows+cell%columns) {
			cells |= 1 << cell
		}
	}
	return cells
}

// hideByHand is the first of all lists of cells that are apart of which all are allowed.
func (by sideByHand) hideByHand(f impl.Field) []int {
	first := slices.IndexFunc(by.apart, func(a tried) bool { return a.cells&^f.Cells == 0 })
	cells := bitsOf(f.Cells)
	return weightsOf(len(cells), func(at int) int { return oneOrNone(slices.Contains(by.apart[first].list, cells[at])) })
}

// lookByHand is the first of all lists of rows and columns that shows all allowed cells.
func (by sideByHand) lookByHand(f impl.Field) []int {
	first := slices.IndexFunc(by.looked, func(a tried) bool { return f.Cells&^a.cells == 0 })
	return weightsOf(f.Rows+f.Columns, func(line int) int { return oneOrNone(slices.Contains(by.looked[first].list, line)) })
}

// fieldExamples are fields with all that is told of them, worked out on paper.
var fieldExamples = []struct {
	f    impl.Field
	most int
	hide []int
	look []int
}{
	// One cell: its row is ahead of its column.
	{fieldOf(1, 1, 0), 1, []int{1}, []int{1, 0}},
	{fieldOf(4, 4, 15), 1, []int{1}, []int{0, 0, 0, 1, 0, 0, 0, 0}},
	{fieldOf(4, 1, 2), 1, []int{1}, []int{0, 0, 1, 0, 0}},
	{fieldOf(1, 4, 3), 1, []int{1}, []int{1, 0, 0, 0, 0}},
	{fieldOf(2, 3, 4), 1, []int{1}, []int{0, 1, 0, 0, 0}},
	// One row or one column shows all: a column though two rows would be the lesser sum.
	{wholeField(1, 4), 1, []int{1, 0, 0, 0}, []int{1, 0, 0, 0, 0}},
	{wholeField(4, 1), 1, []int{1, 0, 0, 0}, []int{0, 0, 0, 0, 1}},
	{fieldOf(1, 4, 1, 3), 1, []int{1, 0}, []int{1, 0, 0, 0, 0}},
	{fieldOf(2, 2, 0, 2), 1, []int{1, 0}, []int{0, 0, 1, 0}},
	{fieldOf(2, 2, 2, 3), 1, []int{1, 0}, []int{0, 1, 0, 0}},
	{fieldOf(4, 4, 4, 5, 6, 7), 1, []int{1, 0, 0, 0}, []int{0, 1, 0, 0, 0, 0, 0, 0}},
	{fieldOf(4, 4, 2, 6, 10, 14), 1, []int{1, 0, 0, 0}, []int{0, 0, 0, 0, 0, 0, 1, 0}},
	// All cells: as many as there are rows or columns, whichever are fewer.
	{wholeField(2, 2), 2, []int{1, 0, 0, 1}, []int{1, 1, 0, 0}},
	{wholeField(2, 3), 2, []int{1, 0, 0, 0, 1, 0}, []int{1, 1, 0, 0, 0}},
	{wholeField(3, 2), 2, []int{1, 0, 0, 1, 0, 0}, []int{0, 0, 0, 1, 1}},
	{wholeField(3, 3), 3, []int{1, 0, 0, 0, 1, 0, 0, 0, 1}, []int{1, 1, 1, 0, 0, 0}},
	{wholeField(4, 2), 2, []int{1, 0, 0, 1, 0, 0, 0, 0}, []int{0, 0, 0, 0, 1, 1}},
	{wholeField(4, 4), 4, []int{1, 0, 0, 0, 0, 1, 0, 0, 0, 0, 1, 0, 0, 0, 0, 1}, []int{1, 1, 1, 1, 0, 0, 0, 0}},
	// With the first cell there would be fewer.
	{fieldOf(2, 2, 0, 1, 2), 2, []int{0, 1, 1}, []int{1, 1, 0, 0}},
	{fieldOf(3, 3, 0, 1, 3, 8), 3, []int{0, 1, 1, 1}, []int{1, 1, 1, 0, 0, 0}},
	{fieldOf(3, 3, 0, 2, 4, 5, 6), 3, []int{0, 1, 1, 0, 1}, []int{1, 1, 1, 0, 0, 0}},
	{fieldOf(4, 4, 0, 1, 2, 3, 4, 8, 12), 2, []int{0, 1, 0, 0, 1, 0, 0}, []int{1, 0, 0, 0, 1, 0, 0, 0}},
	// With the next cell that is apart there would be fewer.
	{fieldOf(3, 3, 0, 1, 2, 3, 4, 5, 6, 7), 3, []int{1, 0, 0, 0, 0, 1, 0, 1}, []int{1, 1, 1, 0, 0, 0}},
	{fieldOf(4, 4, 0, 1, 2, 3, 4, 5, 6, 7, 8, 9, 10, 11, 12, 13, 14), 4, []int{1, 0, 0, 0, 0, 1, 0, 0, 0, 0, 0, 1, 0, 0, 1}, []int{1, 1, 1, 1, 0, 0, 0, 0}},
	// The list with the first cell is first, though the sum of another one, of the cells 1 and 3, is less.
	{fieldOf(3, 3, 0, 1, 3, 4), 2, []int{1, 0, 0, 1}, []int{1, 1, 0, 0, 0, 0}},
	{fieldOf(2, 3, 0, 1, 2, 5), 2, []int{1, 0, 0, 1}, []int{1, 1, 0, 0, 0}},
	// A row and a column together.
	{fieldOf(3, 3, 0, 1, 3, 6), 2, []int{0, 1, 1, 0}, []int{1, 0, 0, 1, 0, 0}},
	{fieldOf(3, 3, 1, 4, 6, 7, 8), 2, []int{1, 0, 1, 0, 0}, []int{0, 0, 1, 0, 1, 0}},
	// Two columns show what three rows would, of a lesser sum.
	{fieldOf(3, 3, 0, 1, 3, 4, 6, 7), 2, []int{1, 0, 0, 1, 0, 0}, []int{0, 0, 0, 1, 1, 0}},
	// No two in one row or in one column: all are apart.
	{fieldOf(4, 4, 3, 6, 9, 12), 4, []int{1, 1, 1, 1}, []int{1, 1, 1, 1, 0, 0, 0, 0}},
	{fieldOf(4, 4, 5, 15), 2, []int{1, 1}, []int{0, 1, 0, 1, 0, 0, 0, 0}},
}

func TestMaxField(t *testing.T) {
	if impl.MaxField != 4 {
		t.Fatalf("MaxField = %d", impl.MaxField)
	}
}

func TestPromise37OneCellIsAField(t *testing.T) {
	for rows := 1; rows <= 4; rows++ {
		for columns := 1; columns <= 4; columns++ {
			for cell := range 30 {
				f := fieldOf(rows, columns, cell)
				if ok := impl.FieldOk(f); ok != (cell < rows*columns) {
					t.Errorf("FieldOk(%v) = %v", f, ok)
				}
			}
			if f := wholeField(rows, columns); !impl.FieldOk(f) {
				t.Errorf("FieldOk(%v) = false", f)
			}
		}
	}
}

func TestPromise37WithAnyFurtherCell(t *testing.T) {
	for _, f := range fieldsUpTo(4) {
		if !impl.FieldOk(f) {
			t.Fatalf("FieldOk(%v) = false", f)
		}
		for cell := range 20 {
			more := f
			more.Cells |= 1 << cell
			if ok := impl.FieldOk(more); ok != (cell < f.Rows*f.Columns) {
				t.Fatalf("FieldOk(%v) = %v, but FieldOk(%v) = true", more, ok, f)
			}
		}
	}
}

func TestPromise37Sides(t *testing.T) {
	for rows := -3; rows <= 20; rows++ {
		for columns := -3; columns <= 20; columns++ {
			f := impl.Field{Rows: rows, Columns: columns, Cells: 1}
			if ok := impl.FieldOk(f); ok != (rows >= 1 && rows <= 4 && columns >= 1 && columns <= 4) {
				t.Errorf("FieldOk(%v) = %v", f, ok)
			}
		}
	}
}

func TestPromise37NoFields(t *testing.T) {
	for _, f := range noFields() {
		if impl.FieldOk(f) {
			t.Errorf("FieldOk(%v) = true", f)
		}
	}
}

func TestPromise38EachCellIsInOneRowAndInOneColumn(t *testing.T) {
	for _, f := range fieldsUpTo(4) {
		g := impl.FieldGame(f)
		if !impl.GameOk(g) || !reflect.DeepEqual(g, fieldGameByHand(f)) {
			t.Fatalf("FieldGame(%v) = %v, not %v", f, g, fieldGameByHand(f))
		}
		for at := range g[0] {
			if column := columnByHand(g, at); total(column[:f.Rows]) != 1 || total(column[f.Rows:]) != 1 {
				t.Fatalf("FieldGame(%v) = %v, of which %v is a column", f, g, column)
			}
		}
	}
}

func TestPromise38FloorsOfFields(t *testing.T) {
	for _, f := range fieldsUpTo(4) {
		g, most := impl.FieldGame(f), impl.MostApart(f)
		if floor, _, ok := impl.FloorOf(g); !ok || floor != oneOrNone(most == 1) {
			t.Fatalf("the floor of FieldGame(%v) is %d, %v, but %d cells are apart", f, floor, ok, most)
		}
		if roof, _, ok := impl.RoofOf(g); !ok || roof != 1 {
			t.Fatalf("the roof of FieldGame(%v) is %d, %v", f, roof, ok)
		}
	}
}

func TestPromise38Examples(t *testing.T) {
	for _, c := range []struct {
		f    impl.Field
		want [][]int
	}{
		{fieldOf(1, 1, 0), [][]int{{1}, {1}}},
		{fieldOf(1, 3, 0, 2), [][]int{{1, 1}, {1, 0}, {0, 0}, {0, 1}}},
		{fieldOf(3, 1, 0, 2), [][]int{{1, 0}, {0, 0}, {0, 1}, {1, 1}}},
		{wholeField(2, 2), [][]int{{1, 1, 0, 0}, {0, 0, 1, 1}, {1, 0, 1, 0}, {0, 1, 0, 1}}},
		{fieldOf(2, 3, 0, 1, 2, 5), [][]int{{1, 1, 1, 0}, {0, 0, 0, 1}, {1, 0, 0, 0}, {0, 1, 0, 0}, {0, 0, 1, 1}}},
		{fieldOf(3, 2, 0, 1, 2, 5), [][]int{{1, 1, 0, 0}, {0, 0, 1, 0}, {0, 0, 0, 1}, {1, 0, 1, 0}, {0, 1, 0, 1}}},
		{fieldOf(4, 4, 15), [][]int{{0}, {0}, {0}, {1}, {0}, {0}, {0}, {1}}},
		{fieldOf(4, 4, 3, 12), [][]int{{1, 0}, {0, 0}, {0, 0}, {0, 1}, {0, 1}, {0, 0}, {0, 0}, {1, 0}}},
		{fieldOf(3, 4, 4, 5, 6, 7), [][]int{{0, 0, 0, 0}, {1, 1, 1, 1}, {0, 0, 0, 0}, {1, 0, 0, 0}, {0, 1, 0, 0}, {0, 0, 1, 0}, {0, 0, 0, 1}}},
	} {
		if g := impl.FieldGame(c.f); !reflect.DeepEqual(g, c.want) {
			t.Errorf("FieldGame(%v) = %v, not %v", c.f, g, c.want)
		}
	}
	if g := impl.FieldGame(wholeField(4, 4)); len(g) != 8 || len(g[0]) != 16 {
		t.Errorf("FieldGame of all cells = %v", g)
	}
}

func TestPromise38NoFields(t *testing.T) {
	for _, f := range noFields() {
		if g := impl.FieldGame(f); len(g) > 0 {
			t.Errorf("FieldGame(%v) = %v", f, g)
		}
	}
}

func TestPromise39AsManyCellsApartAsRowsAndColumnsShowAll(t *testing.T) {
	for _, f := range fieldsUpTo(4) {
		most := impl.MostApart(f)
		if look := impl.LookLines(f); total(look) != most || slices.Max(look) != 1 || slices.Min(look) < 0 {
			t.Fatalf("MostApart(%v) = %d, but LookLines = %v", f, most, look)
		}
		if hide := impl.HideCells(f); total(hide) != most || slices.Max(hide) != 1 || slices.Min(hide) < 0 {
			t.Fatalf("MostApart(%v) = %d, but HideCells = %v", f, most, hide)
		}
	}
}

func TestPromise39MostCellsAndFewestRowsAndColumns(t *testing.T) {
	sides := allSides()
	for _, f := range fieldsUpTo(4) {
		by := sides[side{f.Rows, f.Columns}]
		hide, look := by.hideByHand(f), by.lookByHand(f)
		if most := impl.MostApart(f); most != total(hide) || most != total(look) {
			t.Fatalf("MostApart(%v) = %d, but %v are apart, and %v show all cells", f, most, hide, look)
		}
	}
}

func TestPromise39WithAFurtherCell(t *testing.T) {
	most := map[impl.Field]int{}
	for _, f := range fieldsUpTo(4) {
		most[f] = impl.MostApart(f)
	}
	for f := range most {
		for cell := range f.Rows * f.Columns {
			more := f
			more.Cells |= 1 << cell
			if most[more] != most[f] && (more == f || most[more] != most[f]+1) {
				t.Fatalf("MostApart(%v) = %d, but MostApart(%v) = %d", more, most[more], f, most[f])
			}
		}
	}
}

func TestPromise39Examples(t *testing.T) {
	for _, c := range fieldExamples {
		if most := impl.MostApart(c.f); most != c.most {
			t.Errorf("MostApart(%v) = %d, not %d", c.f, most, c.most)
		}
	}
}

func TestPromise39NoFields(t *testing.T) {
	for _, f := range noFields() {
		if most := impl.MostApart(f); most != -1 {
			t.Errorf("MostApart(%v) = %d", f, most)
		}
	}
}

func TestPromise40CellsThatAreApartAreNotFoundTwoAtOnce(t *testing.T) {
	for _, f := range fieldsUpTo(4) {
		g, hide := impl.FieldGame(f), impl.HideCells(f)
		if risk, ok := impl.RiskOf(g, hide); !ok || risk != oneBy(impl.MostApart(f)) {
			t.Fatalf("HideCells(%v) = %v risks %v, %v", f, hide, risk, ok)
		}
	}
}

func TestPromise40TheFirstCellsThatAreApart(t *testing.T) {
	sides := allSides()
	for _, f := range fieldsUpTo(4) {
		if hide, want := impl.HideCells(f), sides[side{f.Rows, f.Columns}].hideByHand(f); !slices.Equal(hide, want) {
			t.Fatalf("HideCells(%v) = %v, not %v", f, hide, want)
		}
	}
}

func TestPromise40Examples(t *testing.T) {
	for _, c := range fieldExamples {
		if hide := impl.HideCells(c.f); !slices.Equal(hide, c.hide) {
			t.Errorf("HideCells(%v) = %v, not %v", c.f, hide, c.hide)
		}
	}
}

func TestPromise40NoFields(t *testing.T) {
	for _, f := range noFields() {
		if hide := impl.HideCells(f); len(hide) > 0 {
			t.Errorf("HideCells(%v) = %v", f, hide)
		}
	}
}

func TestPromise41FewRowsAndColumnsShowAll(t *testing.T) {
	for _, f := range fieldsUpTo(4) {
		g, look := impl.FieldGame(f), impl.LookLines(f)
		if safe, ok := impl.SafeOf(g, look); !ok || safe != oneBy(impl.MostApart(f)) {
			t.Fatalf("LookLines(%v) = %v is safe for %v, %v", f, look, safe, ok)
		}
	}
}

func TestPromise41BothPlansAreSettled(t *testing.T) {
	for _, f := range fieldsUpTo(4) {
		look, hide := impl.LookLines(f), impl.HideCells(f)
		if !impl.SettledOk(impl.FieldGame(f), look, hide) {
			t.Fatalf("for the field %v, %v and %v are not settled", f, look, hide)
		}
	}
}

func TestPromise41TheFirstRowsAndColumnsThatShowAll(t *testing.T) {
	sides := allSides()
	for _, f := range fieldsUpTo(4) {
		if look, want := impl.LookLines(f), sides[side{f.Rows, f.Columns}].lookByHand(f); !slices.Equal(look, want) {
			t.Fatalf("LookLines(%v) = %v, not %v", f, look, want)
		}
	}
}

func TestPromise41Examples(t *testing.T) {
	for _, c := range fieldExamples {
		if look := impl.LookLines(c.f); !slices.Equal(look, c.look) {
			t.Errorf("LookLines(%v) = %v, not %v", c.f, look, c.look)
		}
	}
}

func TestPromise41NoFields(t *testing.T) {
	for _, f := range noFields() {
		if look := impl.LookLines(f); len(look) > 0 {
			t.Errorf("LookLines(%v) = %v", f, look)
		}
	}
}

func TestPromise42TurnedFieldsAreWorthAsMuch(t *testing.T) {
	for _, f := range fieldsUpTo(4) {
		worth, ok := impl.FieldWorth(f)
		if !ok || worth != oneBy(impl.MostApart(f)) {
			t.Fatalf("FieldWorth(%v) = %v, %v, but %d cells are apart", f, worth, ok, impl.MostApart(f))
		}
		if other, ok := impl.FieldWorth(turnedField(f)); !ok || other != worth {
			t.Fatalf("FieldWorth(%v) = %v, but FieldWorth(%v) = %v, %v", f, worth, turnedField(f), other, ok)
		}
	}
}

func TestPromise42FieldsAreWorthWhatTheirGameIs(t *testing.T) {
	solved := 0
	for _, f := range fieldsUpTo(4) {
		worth, _ := impl.FieldWorth(f)
		game, ok := impl.WorthOf(impl.FieldGame(f))
		if ok != (f.Rows+f.Columns <= 4) || ok && game != worth {
			t.Fatalf("FieldWorth(%v) = %v, but their game is worth %v, %v", f, worth, game, ok)
		}
		solved += oneOrNone(ok)
	}
	if solved != 36 {
		t.Fatalf("%d games of fields are solved", solved)
	}
}

// TestPromise42SmallerGamesOfFields solves games of more rows and columns, from which what is worse is taken away: they are worth as much.
func TestPromise42SmallerGamesOfFields(t *testing.T) {
	solved := 0
	for _, f := range someFields() {
		game, ok := impl.WorthOf(impl.SmallerOf(impl.FieldGame(f)))
		if !ok {
			continue
		}
		solved++
		if worth, _ := impl.FieldWorth(f); worth != game {
			t.Errorf("FieldWorth(%v) = %v, but their game, made smaller, is worth %v", f, worth, game)
		}
	}
	if solved < 400 {
		t.Fatalf("%d games of fields are solved", solved)
	}
}

func TestPromise42Examples(t *testing.T) {
	for _, c := range fieldExamples {
		for _, f := range []impl.Field{c.f, turnedField(c.f)} {
			if worth, ok := impl.FieldWorth(f); !ok || worth != oneBy(c.most) {
				t.Errorf("FieldWorth(%v) = %v, %v, not 1/%d", f, worth, ok, c.most)
			}
		}
	}
}

func TestPromise42NoFields(t *testing.T) {
	for _, f := range noFields() {
		if worth, ok := impl.FieldWorth(f); ok || worth != (impl.Frac{}) {
			t.Errorf("FieldWorth(%v) = %v, %v", f, worth, ok)
		}
	}
}

func TestFieldsShareNoMemory(t *testing.T) {
	for _, f := range someFields() {
		testApart(t, nil, impl.FieldGame(f), impl.FieldGame(f))
		if !apart(impl.HideCells(f), impl.LookLines(f), impl.HideCells(f), impl.LookLines(f)) {
			t.Fatalf("plans for the field %v share memory", f)
		}
	}
}

// TestFieldsAreAsBefore overwrites what was returned, and asks again.
func TestFieldsAreAsBefore(t *testing.T) {
	for _, f := range someFields() {
		spoil(impl.FieldGame(f))
		spoil([][]int{impl.HideCells(f), impl.LookLines(f)})
	}
	sides := allSides()
	for _, f := range someFields() {
		by := sides[side{f.Rows, f.Columns}]
		if !reflect.DeepEqual(impl.FieldGame(f), fieldGameByHand(f)) {
			t.Fatalf("the game of the field %v has changed", f)
		}
		if !slices.Equal(impl.HideCells(f), by.hideByHand(f)) || !slices.Equal(impl.LookLines(f), by.lookByHand(f)) {
			t.Fatalf("the plans for the field %v have changed", f)
		}
	}
}
