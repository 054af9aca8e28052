package bits_test

import (
	"math"
	"slices"
	"testing"

	"gamehall/api"
	"gamehall/bits"
)

// The tests hold package bits against slow definitions by columns and rows, which know nothing of words.

var steps = [][2]int{{1, 0}, {1, 1}, {0, 1}, {-1, 1}, {-1, 0}, {-1, -1}, {0, -1}, {1, -1}}

// extremes are ints at and beyond all the bounds that occur in the chapter.
var extremes = []int{math.MinInt, math.MinInt + 1, math.MinInt32, -65, -64, -63, -9, -8, -7, -2, -1, 0, 1, 2, 7, 8, 9, 62, 63, 64, 65, math.MaxInt32, math.MaxInt - 1, math.MaxInt}

// sets returns the sets that matter at the edges, and many that follow no pattern.
func sets() []uint64 {
	l := []uint64{
		0, 1, 1 << 7, 1 << 8, 1 << 56, 1 << 63, math.MaxUint64, 513, 0x203, 0x18000,
		0x00000000000000ff, 0xff00000000000000, 0x0101010101010101, 0x8080808080808080,
		0xff818181818181ff, 0x55aa55aa55aa55aa, 0x8040201008040201, 0x0102040810204080,
	}
	x := uint64(88172645463325252)
	for i := range 60 {
		x ^= x << 13
		x ^= x >> 7
		x ^= x << 17
		switch i % 3 {
		case 0:
			l = append(l, x)
		case 1:
			l = append(l, x&(x>>21)&(x<<11))
		case 2:
			l = append(l, x|(x>>21))
		}
	}
	return l
}

func slowHas(b uint64, s int) bool {
	return b>>uint(s)%2 == 1
}

func slowList(b uint64) []int {
	var l []int
	for s := range 64 {
		if slowHas(b, s) {
			l = append(l, s)
		}
	}
	return l
}

func slowSet(has func(s int) bool) uint64 {
	var b uint64
	for s := 63; s >= 0; s-- {
		b *= 2
		if has(s) {
			b++
		}
	}
	return b
}

// slowStep returns the square that is dx columns and dy rows away, if there is one; dx and dy are small.
func slowStep(s, dx, dy int) (int, bool) {
	x, y := s%8+dx, s/8+dy
	return y*8 + x, x >= 0 && x < 8 && y >= 0 && y < 8
}

func slowShift(b uint64, dx, dy int) uint64 {
	return slowSet(func(s int) bool {
		from, ok := slowStep(s, -dx, -dy)
		return ok && slowHas(b, from)
	})
}

func slowRay(s, dx, dy int, occupied uint64) uint64 {
	reached := map[int]bool{}
	for {
		next, ok := slowStep(s, dx, dy)
		if !ok {
			break
		}
		reached[next] = true
		if slowHas(occupied, next) {
			break
		}
		s = next
	}
	return slowSet(func(s int) bool { return reached[s] })
}

func slowFill(b, within uint64) uint64 {
	reached := map[int]bool{}
	var visit func(s int)
	visit = func(s int) {
		if reached[s] || !slowHas(within, s) {
			return
		}
		reached[s] = true
		for _, d := range [][2]int{{1, 0}, {-1, 0}, {0, 1}, {0, -1}} {
			if next, ok := slowStep(s, d[0], d[1]); ok {
				visit(next)
			}
		}
	}
	for _, s := range slowList(b) {
		visit(s)
	}
	return slowSet(func(s int) bool { return reached[s] })
}

func slowParts(b uint64) []uint64 {
	var parts []uint64
	var done uint64
	for _, s := range slowList(b) {
		if slowHas(done, s) {
			continue
		}
		part := slowFill(slowSet(func(x int) bool { return x == s }), b)
		parts = append(parts, part)
		done += part
	}
	return parts
}

// slowSubsets tries all words up to b, so that b must be small.
func slowSubsets(b uint64) []uint64 {
	var l []uint64
	for sub := uint64(0); sub <= b; sub++ {
		if sub&^b == 0 {
			l = append(l, sub)
		}
	}
	return l
}

func TestP100Of(t *testing.T) {
	for _, c := range []struct {
		list []int
		want uint64
		err  api.Errno
	}{
		{nil, 0, api.OK},
		{[]int{}, 0, api.OK},
		{[]int{0, 9}, 513, api.OK},
		{[]int{9, 0}, 513, api.OK},
		{[]int{0}, 1, api.OK},
		{[]int{63}, 1 << 63, api.OK},
		{[]int{63, 0, 32}, 1<<63 | 1<<32 | 1, api.OK},
		{[]int{-1}, 0, api.ErrRange},
		{[]int{64}, 0, api.ErrRange},
		{[]int{math.MinInt}, 0, api.ErrRange},
		{[]int{math.MaxInt}, 0, api.ErrRange},
		{[]int{5, 64}, 0, api.ErrRange},
		{[]int{3, 3}, 0, api.ErrTwice},
		{[]int{0, 1, 0}, 0, api.ErrTwice},
		{[]int{63, 62, 63}, 0, api.ErrTwice},
		{[]int{3, 3, 64}, 0, api.ErrTwice},
		{[]int{3, 64, 3}, 0, api.ErrRange},
		{[]int{64, 3, 3}, 0, api.ErrRange},
		{[]int{64, 64}, 0, api.ErrRange},
		{[]int{-1, -1}, 0, api.ErrRange},
	} {
		if got, err := bits.Of(c.list); got != c.want || err != c.err {
			t.Errorf("Of(%v): %d, %d, want %d, %d", c.list, got, err, c.want, c.err)
		}
	}
	for _, b := range sets() {
		l := slowList(b)
		slices.Reverse(l)
		if got, err := bits.Of(l); got != b || err != api.OK {
			t.Errorf("Of(%v): %#x, %d, want %#x", l, got, err, b)
		}
	}
}

func TestP100ListAllCountFirst(t *testing.T) {
	for _, b := range sets() {
		want := slowList(b)
		if got := bits.List(b); !slices.Equal(got, want) {
			t.Errorf("List(%#x): %v, want %v", b, got, want)
		}
		if got := slices.Collect(bits.All(b)); !slices.Equal(got, want) {
			t.Errorf("All(%#x): %v, want %v", b, got, want)
		}
		if got := bits.Count(b); got != len(want) {
			t.Errorf("Count(%#x): %d, want %d", b, got, len(want))
		}
		first, err := bits.First(b)
		switch {
		case b == 0 && (first != 0 || err != api.ErrNone):
			t.Errorf("First(0): %d, %d, want 0, %d", first, err, api.ErrNone)
		case b != 0 && (first != want[0] || err != api.OK):
			t.Errorf("First(%#x): %d, %d, want %d", b, first, err, want[0])
		}
	}
}

func TestP100AllStops(t *testing.T) {
	for _, b := range sets() {
		for n := 1; n <= bits.Count(b); n++ {
			var got []int
			for s := range bits.All(b) {
				got = append(got, s)
				if len(got) == n {
					break
				}
			}
			if want := slowList(b)[:n]; !slices.Equal(got, want) {
				t.Errorf("the first %d of All(%#x): %v, want %v", n, b, got, want)
			}
		}
	}
}

func TestP101Shift(t *testing.T) {
	if got := bits.Shift(1<<7, 1, 0); got != 0 {
		t.Errorf("square 7 moved by one column: %#x, want nothing", got)
	}
	for _, b := range sets() {
		for dx := -9; dx <= 9; dx++ {
			for dy := -9; dy <= 9; dy++ {
				if got, want := bits.Shift(b, dx, dy), slowShift(b, dx, dy); got != want {
					t.Errorf("Shift(%#x, %d, %d): %#x, want %#x", b, dx, dy, got, want)
				}
			}
		}
	}
}

func TestP101ShiftFar(t *testing.T) {
	for _, far := range extremes {
		if -8 < far && far < 8 {
			continue
		}
		for _, b := range sets() {
			for _, d := range [][2]int{{far, 0}, {0, far}, {far, far}, {far, 1}, {-1, far}} {
				if got := bits.Shift(b, d[0], d[1]); got != 0 {
					t.Errorf("Shift(%#x, %d, %d): %#x, want nothing", b, d[0], d[1], got)
				}
			}
		}
	}
}

func TestP102Ray(t *testing.T) {
	for _, occupied := range sets() {
		for square := range 64 {
			for _, d := range steps {
				got, err := bits.Ray(square, d[0], d[1], occupied)
				if want := slowRay(square, d[0], d[1], occupied); got != want || err != api.OK {
					t.Errorf("Ray(%d, %d, %d, %#x): %#x, %d, want %#x", square, d[0], d[1], occupied, got, err, want)
				}
			}
		}
	}
}

func TestP102RayCases(t *testing.T) {
	for _, c := range []struct {
		what           string
		square, dx, dy int
		occupied, want uint64
	}{
		{"up to the first occupied square", 0, 1, 0, 1<<2 | 1<<5, 1<<1 | 1<<2},
		{"the first square of the way is occupied", 0, 0, 1, 1 << 8, 1 << 8},
		{"the square itself is occupied", 0, 1, 0, 1, 0xfe},
		{"nothing is occupied", 0, 1, 1, 0, 0x8040201008040200},
		{"the square is at the edge", 7, 1, 0, 0, 0},
		{"the square is in the corner", 63, 1, 1, math.MaxUint64, 0},
		{"occupied squares beside the way do not count", 0, 1, 0, 0xff00, 0xfe},
	} {
		if got, err := bits.Ray(c.square, c.dx, c.dy, c.occupied); got != c.want || err != api.OK {
			t.Errorf("%s: %#x, %d, want %#x", c.what, got, err, c.want)
		}
	}
}

func TestP102RayErrors(t *testing.T) {
	for _, square := range extremes {
		for _, dx := range extremes {
			for _, dy := range extremes {
				want := api.OK
				switch {
				case square < 0 || square > 63:
					want = api.ErrRange
				case dx < -1 || dx > 1 || dy < -1 || dy > 1 || dx == 0 && dy == 0:
					want = api.ErrArg
				}
				got, err := bits.Ray(square, dx, dy, math.MaxUint64)
				if err != want || err != api.OK && got != 0 {
					t.Errorf("Ray(%d, %d, %d): %#x, %d, want the error %d", square, dx, dy, got, err, want)
				}
			}
		}
	}
}

func TestP103Fill(t *testing.T) {
	for _, b := range sets() {
		for _, within := range sets() {
			if got, want := bits.Fill(b, within), slowFill(b, within); got != want {
				t.Errorf("Fill(%#x, %#x): %#x, want %#x", b, within, got, want)
			}
		}
	}
}

func TestP103FillCases(t *testing.T) {
	// A way from square 0 that turns back at each edge and visits every second row as a whole.
	const snake = 0x01ff80ff01ff80ff
	for _, c := range []struct {
		what            string
		b, within, want uint64
	}{
		{"no squares", 0, math.MaxUint64, 0},
		{"no squares within", math.MaxUint64, 0, 0},
		{"the whole board", 1 << 63, math.MaxUint64, math.MaxUint64},
		{"connected by edges", 1, 0x203, 0x203},
		{"corners do not connect", 1, 1 | 1<<9, 1},
		{"the end of a row is not next to the next row", 1 << 15, 1<<15 | 1<<16, 1 << 15},
		{"a first square outside is not left", 1 << 1, 1 | 1<<2, 0},
		{"only the first squares inside count", 1<<1 | 1<<16, 1 | 1<<16 | 1<<17, 1<<16 | 1<<17},
		{"a long way", 1, snake, snake},
		{"a long way, from its end", 1 << 56, snake, snake},
		{"a long way that is cut", 1, snake &^ (1 << 15), 0xff},
	} {
		if got := bits.Fill(c.b, c.within); got != c.want {
			t.Errorf("%s: %#x, want %#x", c.what, got, c.want)
		}
	}
}

func TestP103Parts(t *testing.T) {
	for _, b := range sets() {
		if got, want := bits.Parts(b), slowParts(b); !slices.Equal(got, want) {
			t.Errorf("Parts(%#x): %#x, want %#x", b, got, want)
		}
	}
}

func TestP103PartsCases(t *testing.T) {
	// The part of the least square has the greatest word.
	const ring = 0xff818181818181ff
	for _, c := range []struct {
		b    uint64
		want []uint64
	}{
		{0, nil},
		{1 << 63, []uint64{1 << 63}},
		{math.MaxUint64, []uint64{math.MaxUint64}},
		{0x8001, []uint64{1, 0x8000}},
		{1 | 1<<9, []uint64{1, 1 << 9}},
		{1<<7 | 1<<8, []uint64{1 << 7, 1 << 8}},
		{ring | 1<<27, []uint64{ring, 1 << 27}},
	} {
		if got := bits.Parts(c.b); !slices.Equal(got, c.want) {
			t.Errorf("Parts(%#x): %#x, want %#x", c.b, got, c.want)
		}
	}
}

func TestP104Subsets(t *testing.T) {
	if got, want := slices.Collect(bits.Subsets(5)), []uint64{0, 1, 4, 5}; !slices.Equal(got, want) {
		t.Errorf("Subsets(5): %v, want %v", got, want)
	}
	for b := range uint64(300) {
		if got, want := slices.Collect(bits.Subsets(b)), slowSubsets(b); !slices.Equal(got, want) {
			t.Errorf("Subsets(%d): %v, want %v", b, got, want)
		}
	}
}

func TestP104SubsetsOfWholeBoard(t *testing.T) {
	for _, b := range []uint64{1 << 63, 1<<63 | 1, 0xc000000000000003, 0x8001000000008001, 0x8040201008040201} {
		got := slices.Collect(bits.Subsets(b))
		if len(got) != 1<<bits.Count(b) || got[0] != 0 || got[len(got)-1] != b {
			t.Errorf("Subsets(%#x): %#x", b, got)
		}
		for i, sub := range got {
			if sub&^b != 0 || i > 0 && sub <= got[i-1] {
				t.Errorf("Subsets(%#x): %#x is no subset, or not in order", b, sub)
			}
		}
	}
}

func TestP104SubsetsStop(t *testing.T) {
	for _, c := range []struct {
		b    uint64
		want []uint64
	}{
		{0, []uint64{0}},
		{5, []uint64{0}},
		{5, []uint64{0, 1, 4}},
		{5, []uint64{0, 1, 4, 5}},
		{math.MaxUint64, []uint64{0, 1, 2, 3, 4}},
		{0xff00000000000000, []uint64{0, 1 << 56, 1 << 57, 1<<56 | 1<<57}},
	} {
		var got []uint64
		for sub := range bits.Subsets(c.b) {
			got = append(got, sub)
			if len(got) == len(c.want) {
				break
			}
		}
		if !slices.Equal(got, c.want) {
			t.Errorf("the first %d of Subsets(%#x): %#x, want %#x", len(c.want), c.b, got, c.want)
		}
	}
}
