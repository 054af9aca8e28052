package symm_test

import (
	"math"
	"math/big"
	"slices"
	"testing"

	"gamehall/api"
	"gamehall/symm"
	"gamehall/testkit"
)

// The tests hold package symm against boards that are written out, and against slow definitions that know nothing of bits, cycles or compositions.

// extremes are ints at and beyond all the bounds that occur in the chapter.
var extremes = []int{math.MinInt, math.MinInt + 1, -64, -8, -4, -1, 0, 1, 2, 3, 4, 5, 6, 7, 8, 9, 15, 16, 17, 63, 64, 65, 1 << 32, math.MaxInt - 1, math.MaxInt}

// bad are widths and heights that no board has.
var bad = []int{math.MinInt, -8, -1, 0, 9, 64, 1 << 32, math.MaxInt}

// slowCount returns how many symmetries there are.
func slowCount(w, h int) int {
	if w == h {
		return 8
	}
	return 4
}

// slowMap does the three steps of the chapter's text, with s as a list of digits.
func slowMap(w, h, s, square int) int {
	exchanged, upsideDown, mirrored := s/4 == 1, s/2%2 == 1, s%2 == 1
	x, y := 0, 0
	for range square {
		x++
		if x == w {
			x, y = 0, y+1
		}
	}
	if exchanged {
		x, y = y, x
	}
	if mirrored {
		x = w - 1 - x
	}
	if upsideDown {
		y = h - 1 - y
	}
	return x + w*y
}

// slowMoves returns where a symmetry moves each square.
func slowMoves(w, h, s int) []int {
	var l []int
	for square := range w * h {
		l = append(l, slowMap(w, h, s, square))
	}
	return l
}

func slowApply(w, h, s int, cells []int) []int {
	moved := make([]int, w*h)
	for square, to := range slowMoves(w, h, s) {
		moved[to] = cells[square]
	}
	return moved
}

// numbered returns cells that all differ.
func numbered(w, h int) []int {
	cells := make([]int, w*h)
	for i := range cells {
		cells[i] = 100 + i
	}
	return cells
}

// scattered returns cells without a pattern, below kinds, the same for equal arguments.
func scattered(w, h, seed, kinds int) []int {
	x := uint64(seed)*2654435761 + 88172645463325252
	cells := make([]int, w*h)
	for i := range cells {
		x ^= x << 13
		x ^= x >> 7
		x ^= x << 17
		cells[i] = int(x>>20) % kinds
	}
	return cells
}

func isBoard(w, h int) bool {
	return w >= 1 && w <= 8 && h >= 1 && h <= 8
}

func TestP105Check(t *testing.T) {
	for _, w := range extremes {
		for _, h := range extremes {
			want := api.ErrRange
			if isBoard(w, h) {
				want = api.OK
			}
			if got := symm.Check(w, h); got != want {
				t.Errorf("Check(%d, %d): %d, want %d", w, h, got, want)
			}
		}
	}
}

func TestP105All(t *testing.T) {
	for _, b := range testkit.Boards() {
		want := []int{0, 1, 2, 3}
		if b[0] == b[1] {
			want = []int{0, 1, 2, 3, 4, 5, 6, 7}
		}
		if got, err := symm.All(b[0], b[1]); !slices.Equal(got, want) || err != api.OK {
			t.Errorf("All(%d, %d): %v, %d, want %v", b[0], b[1], got, err, want)
		}
	}
}

// TestP105SizeFirst gives each function a wrong size together with all other errors that it has.
func TestP105SizeFirst(t *testing.T) {
	check := func(what string, w, h int, err api.Errno, zero bool) {
		t.Helper()
		if err != api.ErrRange || !zero {
			t.Errorf("%s of a board of %d by %d: the error %d, want %d and nothing else", what, w, h, err, api.ErrRange)
		}
	}
	var sizes [][2]int
	for _, side := range bad {
		sizes = append(sizes, [2]int{side, side}, [2]int{side, 3}, [2]int{3, side})
	}
	for _, b := range sizes {
		w, h := b[0], b[1]
		l, err := symm.All(w, h)
		check("All", w, h, err, l == nil)
		for _, wrong := range []int{0, -1, 99} {
			n, err := symm.Map(w, h, wrong, wrong)
			check("Map", w, h, err, n == 0)
			n, err = symm.Compose(w, h, wrong, wrong)
			check("Compose", w, h, err, n == 0)
			n, err = symm.Inverse(w, h, wrong)
			check("Inverse", w, h, err, n == 0)
			l, err = symm.Apply(w, h, wrong, []int{1})
			check("Apply", w, h, err, l == nil)
			l, err = symm.Orbit(w, h, wrong)
			check("Orbit", w, h, err, l == nil)
			n, err = symm.Colours(w, h, wrong)
			check("Colours", w, h, err, n == 0)
		}
		l, n, err := symm.Canon(w, h, []int{1})
		check("Canon", w, h, err, l == nil && n == 0)
	}
}

// TestP105NoSymmetry gives the number of no symmetry together with all other errors but the size.
func TestP105NoSymmetry(t *testing.T) {
	for _, b := range testkit.Boards() {
		w, h := b[0], b[1]
		for _, s := range extremes {
			if 0 <= s && s < slowCount(w, h) {
				continue
			}
			for _, square := range []int{0, -1, 64} {
				if n, err := symm.Map(w, h, s, square); n != 0 || err != api.ErrNone {
					t.Errorf("Map(%d, %d, %d, %d): %d, %d, want 0, %d", w, h, s, square, n, err, api.ErrNone)
				}
			}
			for _, pair := range [][2]int{{s, 0}, {0, s}, {s, s}, {s, 3}, {3, s}} {
				if n, err := symm.Compose(w, h, pair[0], pair[1]); n != 0 || err != api.ErrNone {
					t.Errorf("Compose(%d, %d, %d, %d): %d, %d, want 0, %d", w, h, pair[0], pair[1], n, err, api.ErrNone)
				}
			}
			if n, err := symm.Inverse(w, h, s); n != 0 || err != api.ErrNone {
				t.Errorf("Inverse(%d, %d, %d): %d, %d, want 0, %d", w, h, s, n, err, api.ErrNone)
			}
			for _, cells := range [][]int{numbered(w, h), nil, make([]int, 65)} {
				if l, err := symm.Apply(w, h, s, cells); l != nil || err != api.ErrNone {
					t.Errorf("Apply(%d, %d, %d, %v): %v, %d, want nothing, %d", w, h, s, cells, l, err, api.ErrNone)
				}
			}
		}
	}
}

// TestP106MapWritten has the boards as they look from above: the rows in each list go upward, so that a list is where the squares 0, 1, 2 .. go.
func TestP106MapWritten(t *testing.T) {
	for _, c := range []struct {
		what string
		w, h int
		s    int
		want []int
	}{
		{"nothing moves", 3, 3, 0, []int{0, 1, 2, 3, 4, 5, 6, 7, 8}},
		{"left and right change", 3, 3, 1, []int{2, 1, 0, 5, 4, 3, 8, 7, 6}},
		{"top and bottom change", 3, 3, 2, []int{6, 7, 8, 3, 4, 5, 0, 1, 2}},
		{"half a turn", 3, 3, 3, []int{8, 7, 6, 5, 4, 3, 2, 1, 0}},
		{"rows become columns", 3, 3, 4, []int{0, 3, 6, 1, 4, 7, 2, 5, 8}},
		{"a quarter to the left", 3, 3, 5, []int{2, 5, 8, 1, 4, 7, 0, 3, 6}},
		{"a quarter to the right", 3, 3, 6, []int{6, 3, 0, 7, 4, 1, 8, 5, 2}},
		{"rows become columns over the other diagonal", 3, 3, 7, []int{8, 5, 2, 7, 4, 1, 6, 3, 0}},
		{"nothing moves on a wide board", 3, 2, 0, []int{0, 1, 2, 3, 4, 5}},
		{"left and right change on a wide board", 3, 2, 1, []int{2, 1, 0, 5, 4, 3}},
		{"top and bottom change on a wide board", 3, 2, 2, []int{3, 4, 5, 0, 1, 2}},
		{"half a turn on a wide board", 3, 2, 3, []int{5, 4, 3, 2, 1, 0}},
		{"left and right change on a high board", 2, 3, 1, []int{1, 0, 3, 2, 5, 4}},
		{"top and bottom change on a high board", 2, 3, 2, []int{4, 5, 2, 3, 0, 1}},
		{"one square", 1, 1, 7, []int{0}},
		{"left and right change in one column", 1, 3, 1, []int{0, 1, 2}},
		{"top and bottom change in one column", 1, 3, 2, []int{2, 1, 0}},
	} {
		for square, want := range c.want {
			if got, err := symm.Map(c.w, c.h, c.s, square); got != want || err != api.OK {
				t.Errorf("%s: Map(%d, %d, %d, %d): %d, %d, want %d", c.what, c.w, c.h, c.s, square, got, err, want)
			}
		}
	}
}

func TestP106Map(t *testing.T) {
	for _, b := range testkit.Boards() {
		w, h := b[0], b[1]
		for s := range slowCount(w, h) {
			for square, want := range slowMoves(w, h, s) {
				if got, err := symm.Map(w, h, s, square); got != want || err != api.OK {
					t.Errorf("Map(%d, %d, %d, %d): %d, %d, want %d", w, h, s, square, got, err, want)
				}
			}
		}
	}
}

func TestP106MapNoSquare(t *testing.T) {
	for _, b := range testkit.Boards() {
		w, h := b[0], b[1]
		for s := range slowCount(w, h) {
			for _, square := range append([]int{w * h, w*h + 1}, extremes...) {
				if 0 <= square && square < w*h {
					continue
				}
				if got, err := symm.Map(w, h, s, square); got != 0 || err != api.ErrRange {
					t.Errorf("Map(%d, %d, %d, %d): %d, %d, want 0, %d", w, h, s, square, got, err, api.ErrRange)
				}
			}
		}
	}
}

// slowCompose looks for the symmetry that does what b and then a do; on boards with sides of at least 3 only one does.
func slowCompose(w, h, a, b int) int {
	var want []int
	for _, square := range slowMoves(w, h, b) {
		want = append(want, slowMap(w, h, a, square))
	}
	for s := range slowCount(w, h) {
		if slices.Equal(slowMoves(w, h, s), want) {
			return s
		}
	}
	return -1
}

func TestP106Compose(t *testing.T) {
	for _, b := range testkit.Boards() {
		w, h := b[0], b[1]
		for first := range slowCount(w, h) {
			for then := range slowCount(w, h) {
				// The number does not depend on the size: it is the one of a board on which all symmetries differ.
				want := slowCompose(3, 4, then, first)
				if w == h {
					want = slowCompose(3, 3, then, first)
				}
				if got, err := symm.Compose(w, h, then, first); got != want || err != api.OK {
					t.Errorf("Compose(%d, %d, %d, %d): %d, %d, want %d", w, h, then, first, got, err, want)
				}
			}
		}
	}
}

func TestP106Inverse(t *testing.T) {
	for _, b := range testkit.Boards() {
		w, h := b[0], b[1]
		want := []int{0, 1, 2, 3, 4, 6, 5, 7}[:slowCount(w, h)]
		for s := range want {
			got, err := symm.Inverse(w, h, s)
			if got != want[s] || err != api.OK {
				t.Errorf("Inverse(%d, %d, %d): %d, %d, want %d", w, h, s, got, err, want[s])
				continue
			}
			for square, moved := range slowMoves(w, h, s) {
				if back := slowMap(w, h, got, moved); back != square {
					t.Errorf("Inverse(%d, %d, %d) moves %d to %d, want %d", w, h, s, moved, back, square)
				}
			}
		}
	}
}

func TestP107Apply(t *testing.T) {
	for _, b := range testkit.Boards() {
		w, h := b[0], b[1]
		for s := range slowCount(w, h) {
			for _, cells := range [][]int{numbered(w, h), make([]int, w*h), scattered(w, h, s, 13)} {
				want := slowApply(w, h, s, cells)
				if got, err := symm.Apply(w, h, s, cells); !slices.Equal(got, want) || err != api.OK {
					t.Errorf("Apply(%d, %d, %d, %v): %v, %d, want %v", w, h, s, cells, got, err, want)
				}
			}
		}
	}
}

func TestP107ApplyWritten(t *testing.T) {
	for _, c := range []struct {
		w, h, s     int
		cells, want []int
	}{
		{2, 2, 1, []int{1, 2, 3, 4}, []int{2, 1, 4, 3}},
		{3, 1, 1, []int{7, 8, 9}, []int{9, 8, 7}},
		{1, 3, 2, []int{7, 8, 9}, []int{9, 8, 7}},
		{3, 3, 4, []int{1, 2, 3, 4, 5, 6, 7, 8, 9}, []int{1, 4, 7, 2, 5, 8, 3, 6, 9}},
		// The element of square 0 goes to square 2: the way back would put it on square 6.
		{3, 3, 5, []int{1, 2, 3, 4, 5, 6, 7, 8, 9}, []int{7, 4, 1, 8, 5, 2, 9, 6, 3}},
		{3, 3, 6, []int{1, 2, 3, 4, 5, 6, 7, 8, 9}, []int{3, 6, 9, 2, 5, 8, 1, 4, 7}},
		{2, 1, 1, []int{math.MinInt, math.MaxInt}, []int{math.MaxInt, math.MinInt}},
		{1, 1, 7, []int{-5}, []int{-5}},
	} {
		if got, err := symm.Apply(c.w, c.h, c.s, c.cells); !slices.Equal(got, c.want) || err != api.OK {
			t.Errorf("Apply(%d, %d, %d, %v): %v, %d, want %v", c.w, c.h, c.s, c.cells, got, err, c.want)
		}
	}
}

// wrongLengths returns numbers of cells that do not fit a board.
func wrongLengths(w, h int) []int {
	l := []int{0, w*h - 1, w*h + 1, 2 * w * h, 65, 1000}
	return slices.DeleteFunc(l, func(n int) bool { return n == w*h })
}

func TestP107ApplyWrongCells(t *testing.T) {
	for _, b := range testkit.Boards() {
		for s := range slowCount(b[0], b[1]) {
			for _, n := range wrongLengths(b[0], b[1]) {
				if got, err := symm.Apply(b[0], b[1], s, make([]int, n)); got != nil || err != api.ErrForm {
					t.Errorf("Apply(%d, %d, %d) of %d cells: %v, %d, want nothing, %d", b[0], b[1], s, n, got, err, api.ErrForm)
				}
			}
		}
	}
}

func TestP108Orbit(t *testing.T) {
	for _, b := range testkit.Boards() {
		w, h := b[0], b[1]
		for square := range w * h {
			reached := map[int]bool{}
			for s := range slowCount(w, h) {
				reached[slowMap(w, h, s, square)] = true
			}
			var want []int
			for s := range w * h {
				if reached[s] {
					want = append(want, s)
				}
			}
			if got, err := symm.Orbit(w, h, square); !slices.Equal(got, want) || err != api.OK {
				t.Errorf("Orbit(%d, %d, %d): %v, %d, want %v", w, h, square, got, err, want)
			}
		}
	}
}

func TestP108OrbitWritten(t *testing.T) {
	for _, c := range []struct {
		w, h, square int
		want         []int
	}{
		{1, 1, 0, []int{0}},
		{3, 3, 4, []int{4}},
		{3, 3, 8, []int{0, 2, 6, 8}},
		{3, 3, 3, []int{1, 3, 5, 7}},
		{3, 2, 0, []int{0, 2, 3, 5}},
		{3, 2, 4, []int{1, 4}},
		{4, 4, 1, []int{1, 2, 4, 7, 8, 11, 13, 14}},
		{8, 1, 5, []int{2, 5}},
		{1, 8, 5, []int{2, 5}},
	} {
		if got, err := symm.Orbit(c.w, c.h, c.square); !slices.Equal(got, c.want) || err != api.OK {
			t.Errorf("Orbit(%d, %d, %d): %v, %d, want %v", c.w, c.h, c.square, got, err, c.want)
		}
	}
}

func TestP108OrbitNoSquare(t *testing.T) {
	for _, b := range testkit.Boards() {
		w, h := b[0], b[1]
		for _, square := range append([]int{w * h, w*h + 1}, extremes...) {
			if 0 <= square && square < w*h {
				continue
			}
			if got, err := symm.Orbit(w, h, square); got != nil || err != api.ErrRange {
				t.Errorf("Orbit(%d, %d, %d): %v, %d, want nothing, %d", w, h, square, got, err, api.ErrRange)
			}
		}
	}
}

// slowCanon compares element by element.
func slowCanon(w, h int, cells []int) ([]int, int) {
	best, least := slowApply(w, h, 0, cells), 0
	for s := 1; s < slowCount(w, h); s++ {
		other := slowApply(w, h, s, cells)
		for i := range other {
			if other[i] == best[i] {
				continue
			}
			if other[i] < best[i] {
				best, least = other, s
			}
			break
		}
	}
	return best, least
}

func TestP109Canon(t *testing.T) {
	for _, b := range testkit.Boards() {
		w, h := b[0], b[1]
		for seed := range 40 {
			// Few kinds of cells make the forms meet at their beginnings, and symmetries be alike.
			cells := scattered(w, h, seed, 2+seed%4)
			want, s := slowCanon(w, h, cells)
			got, n, err := symm.Canon(w, h, cells)
			if !slices.Equal(got, want) || n != s || err != api.OK {
				t.Errorf("Canon(%d, %d, %v): %v, %d, %d, want %v, %d", w, h, cells, got, n, err, want, s)
			}
		}
	}
}

// TestP109CanonOfAllForms needs no other definition: all forms of cells have the same first one.
func TestP109CanonOfAllForms(t *testing.T) {
	for _, b := range testkit.Boards() {
		w, h := b[0], b[1]
		for _, cells := range [][]int{numbered(w, h), scattered(w, h, 7, 3), make([]int, w*h)} {
			want, _, _ := symm.Canon(w, h, cells)
			for s := range slowCount(w, h) {
				form := slowApply(w, h, s, cells)
				got, n, err := symm.Canon(w, h, form)
				if !slices.Equal(got, want) || err != api.OK {
					t.Errorf("Canon(%d, %d, %v): %v, %d, want %v", w, h, form, got, err, want)
				}
				if again := slowApply(w, h, n, form); !slices.Equal(again, want) {
					t.Errorf("Canon(%d, %d, %v): the symmetry %d leads to %v, want %v", w, h, form, n, again, want)
				}
				if slices.Compare(want, form) > 0 {
					t.Errorf("Canon(%d, %d, %v): %v, which is later", w, h, form, want)
				}
			}
		}
	}
}

func TestP109CanonWritten(t *testing.T) {
	for _, c := range []struct {
		what  string
		w, h  int
		cells []int
		want  []int
		s     int
	}{
		{"two squares", 2, 1, []int{6, 5}, []int{5, 6}, 1},
		{"first already", 2, 1, []int{5, 6}, []int{5, 6}, 0},
		{"all symmetries are alike", 3, 3, make([]int, 9), make([]int, 9), 0},
		{"one square", 1, 1, []int{4}, []int{4}, 0},
		{"in one column the symmetries 2 and 3 are alike", 1, 2, []int{6, 5}, []int{5, 6}, 2},
		{"in one row the symmetries 1 and 3 are alike", 3, 1, []int{3, 2, 1}, []int{1, 2, 3}, 1},
		{"only an exchange leads to it", 2, 2, []int{0, 2, 1, 3}, []int{0, 1, 2, 3}, 4},
		{"the symmetries 1 and 5 are alike", 2, 2, []int{1, 0, 1, 1}, []int{0, 1, 1, 1}, 1},
		{"negative cells come first", 2, 1, []int{0, -1}, []int{-1, 0}, 1},
		{"differences that do not fit a word", 2, 1, []int{math.MaxInt, math.MinInt}, []int{math.MinInt, math.MaxInt}, 1},
		{"the least and the greatest, in order", 2, 1, []int{math.MinInt, math.MaxInt}, []int{math.MinInt, math.MaxInt}, 0},
	} {
		got, s, err := symm.Canon(c.w, c.h, c.cells)
		if !slices.Equal(got, c.want) || s != c.s || err != api.OK {
			t.Errorf("%s: Canon(%d, %d, %v): %v, %d, %d, want %v, %d", c.what, c.w, c.h, c.cells, got, s, err, c.want, c.s)
		}
	}
}

func TestP109CanonWrongCells(t *testing.T) {
	for _, b := range testkit.Boards() {
		for _, n := range wrongLengths(b[0], b[1]) {
			if got, s, err := symm.Canon(b[0], b[1], make([]int, n)); got != nil || s != 0 || err != api.ErrForm {
				t.Errorf("Canon(%d, %d) of %d cells: %v, %d, %d, want nothing, 0, %d", b[0], b[1], n, got, s, err, api.ErrForm)
			}
		}
	}
}

func TestP110ColoursWritten(t *testing.T) {
	for _, c := range []struct{ w, h, colours, want int }{
		{2, 2, 2, 6},
		{1, 2, 3, 6},
		{1, 1, 5, 5},
		{3, 1, 2, 6},
		{3, 3, 2, 102},
		{4, 4, 2, 8548},
		{2, 3, 2, 24},
		{1, 1, 0, 0},
		{8, 8, 0, 0},
		{1, 1, 1, 1},
		{8, 8, 1, 1},
		{1, 1, 16, 16},
	} {
		if got, err := symm.Colours(c.w, c.h, c.colours); got != c.want || err != api.OK {
			t.Errorf("Colours(%d, %d, %d): %d, %d, want %d", c.w, c.h, c.colours, got, err, c.want)
		}
	}
}

// slowColours writes out all ways and counts those that are the first of their forms.
func slowColours(w, h, colours int) int {
	cells := make([]int, w*h)
	n := 0
	for {
		first := true
		for s := range slowCount(w, h) {
			first = first && slices.Compare(slowApply(w, h, s, cells), cells) >= 0
		}
		if first {
			n++
		}
		i := 0
		for i < len(cells) && cells[i] == colours-1 {
			cells[i] = 0
			i++
		}
		if i == len(cells) {
			return n
		}
		cells[i]++
	}
}

func TestP110ColoursCounted(t *testing.T) {
	for _, b := range testkit.Boards() {
		for colours := 1; colours <= 16; colours++ {
			if math.Pow(float64(colours), float64(b[0]*b[1])) > 70000 {
				break
			}
			want := slowColours(b[0], b[1], colours)
			if got, err := symm.Colours(b[0], b[1], colours); got != want || err != api.OK {
				t.Errorf("Colours(%d, %d, %d): %d, %d, want %d", b[0], b[1], colours, got, err, want)
			}
		}
	}
}

func power(base, exponent int) *big.Int {
	return new(big.Int).Exp(big.NewInt(int64(base)), big.NewInt(int64(exponent)), nil)
}

// bigColours has the numbers of colours that can be chosen freely written out for each symmetry, and returns the greatest number of ways that a symmetry does not change, and the mean of all.
func bigColours(w, h, colours int) (greatest, mean *big.Int) {
	half := func(n int) int { return (n + 1) / 2 }
	free := []int{w * h, half(w) * h, w * half(h), half(w * h)}
	if w == h {
		quarter := (w*w + 3) / 4
		diagonal := w * (w + 1) / 2
		free = append(free, diagonal, quarter, quarter, diagonal)
	}
	greatest, mean = new(big.Int), new(big.Int)
	for _, n := range free {
		ways := power(colours, n)
		mean.Add(mean, ways)
		if ways.Cmp(greatest) > 0 {
			greatest = ways
		}
	}
	return greatest, mean.Div(mean, big.NewInt(int64(len(free))))
}

func TestP110Colours(t *testing.T) {
	limit := power(2, 48)
	for _, b := range testkit.Boards() {
		w, h := b[0], b[1]
		for colours := range 17 {
			got, err := symm.Colours(w, h, colours)
			greatest, mean := bigColours(w, h, colours)
			if greatest.Cmp(limit) > 0 {
				if got != 0 || err != api.ErrLarge {
					t.Errorf("Colours(%d, %d, %d): %d, %d, want 0, %d", w, h, colours, got, err, api.ErrLarge)
				}
			} else if mean.Cmp(big.NewInt(int64(got))) != 0 || err != api.OK {
				t.Errorf("Colours(%d, %d, %d): %d, %d, want %v", w, h, colours, got, err, mean)
			}
		}
	}
}

func TestP110ColoursErrors(t *testing.T) {
	for _, c := range []struct {
		what          string
		w, h, colours int
		want          api.Errno
	}{
		{"2^48 ways, two colours", 8, 6, 2, api.OK},
		{"2^48 ways, eight colours", 4, 4, 8, api.OK},
		{"2^48 ways, sixteen colours", 4, 3, 16, api.OK},
		{"2^49 ways", 7, 7, 2, api.ErrLarge},
		{"the next after 2^48 with sixteen squares", 4, 4, 9, api.ErrLarge},
		{"2^64 ways, which a word has as 0", 8, 8, 2, api.ErrLarge},
		{"2^256 ways, which a word has as 0", 8, 8, 16, api.ErrLarge},
		{"too many colours are first", 8, 8, 17, api.ErrArg},
		{"too many colours for one square", 1, 1, 17, api.ErrArg},
		{"a negative number", 1, 1, -1, api.ErrArg},
		{"a negative number for many squares", 8, 8, -2, api.ErrArg},
		{"the least int", 8, 8, math.MinInt, api.ErrArg},
		{"the greatest int", 8, 8, math.MaxInt, api.ErrArg},
	} {
		got, err := symm.Colours(c.w, c.h, c.colours)
		if err != c.want || err != api.OK && got != 0 {
			t.Errorf("%s: Colours(%d, %d, %d): %d, %d, want the error %d", c.what, c.w, c.h, c.colours, got, err, c.want)
		}
	}
}
