package zob_test

import (
	"fmt"
	"iter"
	"math"
	"math/big"
	"math/rand/v2"
	"regexp"
	"slices"
	"strconv"
	"strings"
	"testing"

	"gamehall/api"
	"gamehall/moves"
	"gamehall/place"
	"gamehall/rules"
	"gamehall/ruletext"
	"gamehall/testkit"
	"gamehall/zob"
)

// The tests hold package zob against numbers that are published for this way to mix, against keys that are written out, and against slow definitions: numbers of any size instead of words, and the letters of the text of a position.

// extremes are ints at and beyond all the bounds that occur in the chapter.
var extremes = []int{math.MinInt, math.MinInt + 1, -1000, -64, -8, -2, -1, 0, 1, 2, 3, 5, 6, 7, 8, 63, 64, 65, 199, 200, 201, 999, 1000, 1001, 1999, 2000, 2013, 3000, 1 << 32, math.MaxInt - 1, math.MaxInt}

// sampleRules has pieces that take, change, and are kept.
const sampleRules = `game Z 3 4
piece P 2 K
way 0 1 2 never
way 1 1 1 must
way -1 1 1 must
piece N 0 -
way 1 2 1 may
way -1 2 1 may
piece K 0 -
way 1 0 2 may
way -1 0 2 may
row nkn
row ppp
row PPP
row NKN
keeps
end take K 1 wins
blocked draws
quiet 50
repeat 3
`

const samplePosition = "p1k/1PN/1p1/1KN P1N2 P999K3 1 20"

func sample() (api.Rules, api.Position) {
	r, _ := ruletext.Parse(sampleRules)
	p, _ := place.Read(r, samplePosition)
	return r, p
}

// board returns rules with an empty board and types of pieces that do not move, by their letters.
func board(w, h int, letters string) api.Rules {
	r := api.Rules{Name: "B", Width: w, Height: h, Start: make([]int, w*h)}
	for _, letter := range []byte(letters) {
		r.Pieces = append(r.Pieces, api.RulePiece{Letter: letter})
	}
	return r
}

// read returns the position with a text.
func read(t *testing.T, r api.Rules, s string) api.Position {
	t.Helper()
	p, err := place.Read(r, s)
	if err != api.OK {
		t.Fatalf("the text %q of the test has no position: %d, for rules with %d", s, err, rules.Check(r))
	}
	return p
}

// games returns an iterator over the sample and so many positions of all kinds, the same for each call.
func games(n int) iter.Seq2[api.Rules, api.Position] {
	return func(yield func(api.Rules, api.Position) bool) {
		random := rand.New(rand.NewPCG(8, 129))
		for goOn, left := yield(sample()), n; goOn && left > 0; left-- {
			goOn = yield(testkit.AnyGame(random.IntN))
		}
	}
}

// sum returns the sum of what Mix has for some numbers.
func sum(l ...int) uint64 {
	var key uint64
	for _, n := range l {
		key += zob.Mix(n)
	}
	return key
}

// word returns a number modulo 2^64.
func word(n *big.Int) *big.Int {
	return new(big.Int).Mod(n, new(big.Int).Lsh(big.NewInt(1), 64))
}

// slowMix has the definition of P128, word by word.
func slowMix(n int) *big.Int {
	times := func(a *big.Int, b uint64) *big.Int {
		return word(new(big.Int).Mul(a, new(big.Int).SetUint64(b)))
	}
	fold := func(z *big.Int, power uint) *big.Int {
		quotient := new(big.Int).Div(z, new(big.Int).Exp(big.NewInt(2), big.NewInt(int64(power)), nil))
		return new(big.Int).Xor(z, quotient)
	}
	z := times(word(new(big.Int).Add(big.NewInt(int64(n)), big.NewInt(1))), 0x9E3779B97F4A7C15)
	z = times(fold(z, 30), 0xBF58476D1CE4E5B9)
	z = times(fold(z, 27), 0x94D049BB133111EB)
	return fold(z, 31)
}

// slowKey adds up what the text of a position has, letter by letter.
func slowKey(r api.Rules, p api.Position) uint64 {
	text, _ := place.Text(r, p)
	parts := strings.Split(text, " ")
	types := ""
	for _, piece := range r.Pieces {
		types += string(rune(piece.Letter))
	}
	key := new(big.Int)
	add := func(n, times int) {
		key.Add(key, new(big.Int).Mul(slowMix(n), big.NewInt(int64(times))))
	}
	square := 0
	rows := strings.Split(parts[0], "/")
	slices.Reverse(rows)
	for _, c := range strings.Join(rows, "") {
		switch kind := strings.IndexRune(types, c); {
		case '1' <= c && c <= '8':
			square += int(c - '0')
			continue
		case kind >= 0:
			add(16*square+2*kind+1, 1)
		default:
			add(16*square+2*strings.IndexRune(strings.ToLower(types), c)+2, 1)
		}
		square++
	}
	for player, hand := range parts[1:3] {
		for _, held := range regexp.MustCompile("([A-Z])([0-9]+)").FindAllStringSubmatch(hand, -1) {
			n, _ := strconv.Atoi(held[2])
			add(2000+8*player+strings.Index(types, held[1]), n)
		}
	}
	if parts[3] == "2" {
		add(3000, 1)
	}
	return word(key).Uint64()
}

// hold holds Key against the slow definition, and returns the key.
func hold(t *testing.T, r api.Rules, p api.Position) uint64 {
	t.Helper()
	got, err := zob.Key(r, p)
	if want := slowKey(r, p); got != want || err != api.OK {
		t.Fatalf("Key(%+v, %+v): %#x, %d, want %#x", r, p, got, err, want)
	}
	return got
}

// try has all functions with rules and a position whose error is known.
func try(t *testing.T, r api.Rules, p api.Position, want api.Errno) {
	t.Helper()
	if key, err := zob.Key(r, p); key != 0 || err != want {
		t.Errorf("Key(%+v, %+v): %#x, %d, want 0, %d", r, p, key, err, want)
	}
	for _, m := range []api.Move{{From: -1, To: 0, Piece: 0}, {From: 1, To: 0, Piece: 2}, {From: -2, To: 99, Piece: 7}, {}} {
		if key, err := zob.Change(r, p, m); key != 0 || err != want {
			t.Errorf("Change(%+v, %+v, %v): %#x, %d, want 0, %d", r, p, m, key, err, want)
		}
	}
}

// TestP118Numbers has rules and positions in which one number, or each of them, is at or beyond its bounds.
func TestP118Numbers(t *testing.T) {
	seen := map[api.Errno]int{}
	r, p := sample()
	for r, p := range testkit.Changed(r, p, extremes) {
		err := place.Check(r, p)
		seen[err]++
		if err == api.OK {
			hold(t, r, p)
		} else {
			try(t, r, p, err)
		}
	}
	for _, err := range []api.Errno{api.OK, api.ErrForm, api.ErrArg, api.ErrRange} {
		if seen[err] < 10 {
			t.Errorf("the error %d came up %d times only: %v", err, seen[err], seen)
		}
	}
}

// TestP118Wrong has wrong rules with positions that are right and wrong, and wrong positions of right rules.
func TestP118Wrong(t *testing.T) {
	r, p := sample()
	for _, w := range testkit.Wrongs(r, p) {
		try(t, w.Rules, w.Position, w.Err)
	}
}

// TestP128Published has the first numbers of the generator SplitMix64 with the seeds 0 and 1234567, as others have published them.
func TestP128Published(t *testing.T) {
	for n, want := range []uint64{0xE220A8397B1DCDAF, 0x6E789E6AA1B965F4, 0x06C45D188009454F, 0xF88BB8A8724C81EC, 0x1B39896A51A8749B} {
		if got := zob.Mix(n); got != want {
			t.Errorf("Mix(%d): %#x, want %#x", n, got, want)
		}
	}
	const step = 0x9E3779B97F4A7C15
	inverse := uint64(1)
	for range 6 {
		inverse *= 2 - step*inverse // each time twice as many bits of step * inverse are those of 1
	}
	for i, want := range []uint64{6457827717110365317, 3203168211198807973, 9817491932198370423, 4593380528125082431, 16408922859458223821} {
		n := int(1234567*inverse) + i
		if got := zob.Mix(n); got != want {
			t.Errorf("Mix(%d): %d, want %d", n, got, want)
		}
	}
}

// TestP128Modulo has numbers near 2^63, -2^63 and -1, where n + 1 has another sign, or is 0.
func TestP128Modulo(t *testing.T) {
	for _, c := range []struct {
		n    int
		want uint64
	}{
		{-2, 0x336503C6B835BEC0},
		{-1, 0},
		{math.MaxInt, 0x25C26EA579CEA98A},
		{math.MinInt, 0x481EC0A212A9F3DB},
	} {
		if got := zob.Mix(c.n); got != c.want {
			t.Errorf("Mix(%d): %#x, want %#x", c.n, got, c.want)
		}
	}
}

func TestP128Slow(t *testing.T) {
	l := slices.Clone(extremes)
	for n := -1100; n < 3100; n++ {
		l = append(l, n)
	}
	random := rand.New(rand.NewPCG(8, 128))
	for range 5000 {
		l = append(l, int(random.Uint64()>>random.IntN(64)))
	}
	for bit := range 64 {
		l = append(l, 1<<bit, 1<<bit-1, -1<<bit, ^(1 << bit))
	}
	for _, n := range l {
		if got, want := zob.Mix(n), slowMix(n).Uint64(); got != want {
			t.Fatalf("Mix(%d): %#x, want %#x", n, got, want)
		}
	}
}

// TestP129Literal has keys that were computed outside this program.
func TestP129Literal(t *testing.T) {
	withSample, _ := sample()
	for _, c := range []struct {
		r        api.Rules
		position string
		want     uint64
	}{
		{board(3, 3, "A"), "3/3/3 A5 A5 1 0", 0x473A7F70C61CD793},
		{board(3, 3, "A"), "2A/1a1/A2 A3 A4 2 0", 0x961A84D45ED0A476},
		{withSample, samplePosition, 0xBAB6DC64646CF6CE},
		{board(8, 8, "PRNBQK"), "rnbqkbnr/pppppppp/8/8/8/8/PPPPPPPP/RNBQKBNR - - 1 0", 0xB968A239166DC34F},
		{board(8, 8, "ABCDEF"), "fedcbafe/8/8/8/8/8/8/ABCDEFAB F1000 A1000F1000 2 200", 0x1FE138D3D067E49D},
	} {
		if got, err := zob.Key(c.r, read(t, c.r, c.position)); got != c.want || err != api.OK {
			t.Errorf("Key of %q: %#x, %d, want %#x", c.position, got, err, c.want)
		}
	}
}

func TestP129Written(t *testing.T) {
	r := board(3, 2, "ABC")
	for _, c := range []struct {
		position string
		want     uint64
	}{
		{"3/3 - - 1 0", 0},
		{"3/3 - - 2 0", sum(3000)},
		{"3/A2 - - 1 0", sum(1)},
		{"3/a2 - - 1 0", sum(2)},
		{"3/B2 - - 1 0", sum(3)},
		{"3/b2 - - 1 0", sum(4)},
		{"3/C2 - - 2 0", sum(5, 3000)},
		{"3/c2 - - 2 0", sum(6, 3000)},
		{"3/1A1 - - 1 0", sum(17)},
		{"3/2b - - 1 0", sum(36)},
		{"A2/3 - - 1 0", sum(49)},
		{"2c/3 - - 1 0", sum(86)},
		{"3/AAA - - 1 0", sum(1, 17, 33)},
		{"aBc/AbC - - 1 0", sum(1, 20, 37, 50, 67, 86)},
		{"3/3 A1 - 1 0", sum(2000)},
		{"3/3 B1 - 1 0", sum(2001)},
		{"3/3 C1 - 1 0", sum(2002)},
		{"3/3 - A1 1 0", sum(2008)},
		{"3/3 - B1 1 0", sum(2009)},
		{"3/3 - C1 2 0", sum(2010, 3000)},
		{"3/3 B3 A2 1 0", sum(2001, 2001, 2001, 2008, 2008)},
		{"3/3 A1C1 A1C1 1 0", sum(2000, 2002, 2008, 2010)},
		{"b2/1A1 A2 C1 2 9", sum(17, 52, 2000, 2000, 2010, 3000)},
	} {
		if got, err := zob.Key(r, read(t, r, c.position)); got != c.want || err != api.OK {
			t.Errorf("Key of %q: %#x, %d, want %#x", c.position, got, err, c.want)
		}
	}
}

// TestP129AllSquares has one piece of each kind on each square of each board.
func TestP129AllSquares(t *testing.T) {
	for _, size := range testkit.Boards() {
		r := board(size[0], size[1], "ABCDEF")
		for square := range r.Start {
			for cell := range 13 {
				p := api.Position{Cells: make([]int, len(r.Start)), Hands: [2][]int{make([]int, 6), make([]int, 6)}}
				p.Cells[square] = cell
				want := uint64(0)
				if cell > 0 {
					want = zob.Mix(16*square + cell)
				}
				if got, err := zob.Key(r, p); got != want || err != api.OK {
					t.Fatalf("Key of a cell %d on the square %d of a board of %d by %d: %#x, %d, want %#x", cell, square, r.Width, r.Height, got, err, want)
				}
			}
		}
	}
}

// TestP129AllHands has each number of pieces of one type in one hand.
func TestP129AllHands(t *testing.T) {
	r := board(1, 1, "ABCDEF")
	for player := range 2 {
		for kind := range 6 {
			want := uint64(0)
			for n := range 1001 {
				p := api.Position{Cells: []int{0}, Hands: [2][]int{make([]int, 6), make([]int, 6)}}
				p.Hands[player][kind] = n
				if got, err := zob.Key(r, p); got != want || err != api.OK {
					t.Fatalf("Key of %d pieces %d in the hand of player %d: %#x, %d, want %#x", n, kind, player, got, err, want)
				}
				want += zob.Mix(2000 + 8*player + kind)
			}
		}
	}
}

func TestP129Quiet(t *testing.T) {
	for r, p := range games(20) {
		want := hold(t, r, p)
		for quiet := range 201 {
			p.Quiet = quiet
			if got, err := zob.Key(r, p); got != want || err != api.OK {
				t.Errorf("Key of %+v: %#x, %d, want %#x as with another Quiet", p, got, err, want)
			}
		}
	}
}

// TestP129Rules has a position with other rules that permit it: only the position matters, not even the sides of the board.
func TestP129Rules(t *testing.T) {
	for r, p := range games(300) {
		want := hold(t, r, p)
		other := board(r.Height, r.Width, "FEDCBA"[:len(r.Pieces)])
		for i := range other.Start {
			other.Start[i] = 1
		}
		for kind := range other.Pieces {
			other.Pieces[kind].Hand = 7
		}
		other.Falls, other.Keeps, other.Quiet, other.Repeat = !r.Falls, !r.Keeps, 1, 2
		if got, err := zob.Key(other, p); got != want || err != api.OK {
			t.Errorf("Key of %+v with the rules %+v: %#x, %d, want %#x", p, other, got, err, want)
		}
	}
}

// TestP129Slow has positions of all kinds.
func TestP129Slow(t *testing.T) {
	for r, p := range games(3000) {
		hold(t, r, p)
	}
}

// TestP129Different changes one number of a position. The document does not promise that the keys differ then, but these do.
func TestP129Different(t *testing.T) {
	for r, p := range games(60) {
		key := hold(t, r, p)
		for i, n := range testkit.PositionNumbers(&p) {
			for _, by := range []int{-2, -1, 1, 2} {
				q := testkit.RoomyPosition(p)
				*testkit.PositionNumbers(&q)[i] = *n + by
				if place.Check(r, q) != api.OK {
					continue
				}
				if got := hold(t, r, q); (got == key) != place.Same(p, q) {
					t.Errorf("Key of %+v and %+v: %#x and %#x", p, q, key, got)
				}
			}
		}
	}
}

func TestP130Written(t *testing.T) {
	r, _ := ruletext.Parse(sampleRules)
	loses := r
	loses.Keeps = false
	for _, c := range []struct {
		position   string
		m          api.Move
		gone, come []int
		taken      int // what the taken piece is in the hand, with Keeps; 0 for none
	}{
		{samplePosition, api.Move{From: -1, To: 0, Piece: 0}, []int{2000}, []int{1}, 0},
		{samplePosition, api.Move{From: -1, To: 10, Piece: 1}, []int{2001}, []int{163}, 0},
		{samplePosition, api.Move{From: 1, To: 0, Piece: 2}, []int{21}, []int{5}, 0},
		// A piece that changes, and takes.
		{samplePosition, api.Move{From: 7, To: 10, Piece: 2}, []int{113}, []int{165}, 0},
		{samplePosition, api.Move{From: 7, To: 9, Piece: 2}, []int{113, 146}, []int{149}, 2000},
		{samplePosition, api.Move{From: 7, To: 11, Piece: 2}, []int{113, 182}, []int{181}, 2002},
		{"3/3/P2/3 - - 1 0", api.Move{From: 3, To: 6, Piece: 0}, []int{49}, []int{97}, 0},
		{"3/3/P2/3 - - 1 200", api.Move{From: 3, To: 9, Piece: 2}, []int{49}, []int{149}, 0},
		{"3/1p1/P2/3 - P2 1 7", api.Move{From: 3, To: 7, Piece: 0}, []int{49, 114}, []int{113}, 2000},
		// The same for Second.
		{"3/3/3/3 P1 P1 2 0", api.Move{From: -1, To: 11, Piece: 0}, []int{2008}, []int{178}, 0},
		{"k2/3/3/3 - - 2 0", api.Move{From: 9, To: 11, Piece: 2}, []int{150}, []int{182}, 0},
		{"k1N/3/3/3 N3 - 2 0", api.Move{From: 9, To: 11, Piece: 2}, []int{150, 179}, []int{182}, 2009},
		{"3/3/1p1/K2 P1 N5 2 0", api.Move{From: 4, To: 0, Piece: 2}, []int{66, 5}, []int{6}, 2010},
		{"3/3/1p1/3 P1 N5 2 0", api.Move{From: 4, To: 1, Piece: 2}, []int{66}, []int{22}, 0},
		// Hands that are full, or become so.
		{"3/1p1/P2/3 P999 P1000 1 7", api.Move{From: 3, To: 7, Piece: 0}, []int{49, 114}, []int{113}, 2000},
		{"3/1p1/P2/3 P1000 - 1 7", api.Move{From: 3, To: 7, Piece: 0}, []int{49, 114}, []int{113}, 0},
		{"k1N/3/3/3 - P7N1000 2 0", api.Move{From: 9, To: 11, Piece: 2}, []int{150, 179}, []int{182}, 0},
		{"3/3/3/3 P1000 - 1 0", api.Move{From: -1, To: 4, Piece: 0}, []int{2000}, []int{65}, 0},
	} {
		p := read(t, r, c.position)
		before, _ := zob.Key(r, p)
		turn := sum(3000)
		if p.Turn == api.Second {
			turn = -turn
		}
		want := before - sum(c.gone...) + sum(c.come...) + turn
		if got, err := zob.Change(loses, p, c.m); got != want || err != api.OK {
			t.Errorf("Change of %q by %v without Keeps: %#x, %d, want %#x", c.position, c.m, got, err, want)
		}
		if c.taken > 0 {
			want += zob.Mix(c.taken)
		}
		if got, err := zob.Change(r, p, c.m); got != want || err != api.OK {
			t.Errorf("Change of %q by %v with Keeps: %#x, %d, want %#x", c.position, c.m, got, err, want)
		}
	}
}

// changed returns the key after a legal move from the key before it, by what the move changes.
func changed(r api.Rules, p api.Position, m api.Move, key uint64) uint64 {
	hand := func(kind int) uint64 { return zob.Mix(2000 + 8*p.Turn + kind) }
	if m.From < 0 {
		key -= hand(m.Piece)
	} else {
		key -= zob.Mix(16*m.From + p.Cells[m.From])
	}
	if cell := p.Cells[m.To]; cell > 0 {
		kind := (cell+1)/2 - 1
		key -= zob.Mix(16*m.To + cell)
		if r.Keeps && p.Hands[p.Turn][kind] < 1000 {
			key += hand(kind)
		}
	}
	key += zob.Mix(16*m.To + 2*m.Piece + p.Turn + 1)
	return map[int]uint64{api.First: key + zob.Mix(3000), api.Second: key - zob.Mix(3000)}[p.Turn]
}

// TestP130Slow holds Change against the key of the position after each legal move, and against what the move changes.
func TestP130Slow(t *testing.T) {
	seen := map[string]int{}
	for r, p := range games(1500) {
		key := hold(t, r, p)
		l, _ := moves.All(r, p)
		for _, m := range l {
			after, _ := moves.After(r, p, m)
			want, _ := zob.Key(r, after)
			if got, err := zob.Change(r, p, m); got != want || got != changed(r, p, m, key) || err != api.OK {
				t.Fatalf("Change(%+v, %+v, %v): %#x, %d, want %#x and %#x", r, p, m, got, err, want, changed(r, p, m, key))
			}
			seen[describe(r, p, m)]++
		}
	}
	for turn := range 2 {
		for _, kind := range []string{"put", "move", "move and change", "move and take", "move and take and change", "move and take and keep", "move and take and keep and change"} {
			if n := seen[fmt.Sprint(turn, kind)]; n < 20 {
				t.Errorf("%s of player %d came up %d times only: %v", kind, turn, n, seen)
			}
		}
	}
}

// describe tells whose move it is, and of which kind.
func describe(r api.Rules, p api.Position, m api.Move) string {
	if m.From == -1 {
		return fmt.Sprint(p.Turn, "put")
	}
	s := fmt.Sprint(p.Turn, "move")
	if taken := p.Cells[m.To]; taken != 0 {
		s += " and take"
		if r.Keeps && p.Hands[p.Turn][(taken-1)/2] < 1000 {
			s += " and keep"
		}
	}
	if (p.Cells[m.From]-1)/2 != m.Piece {
		s += " and change"
	}
	return s
}

// TestP130NotLegal has all candidates, and moves with squares and types that the game does not have.
func TestP130NotLegal(t *testing.T) {
	test := func(r api.Rules, p api.Position, l []api.Move) {
		legal, _ := moves.All(r, p)
		for _, m := range l {
			key, err := zob.Change(r, p, m)
			if is := slices.Contains(legal, m); is != (err == api.OK) || !is && (err != api.ErrMove || key != 0) {
				t.Fatalf("Change(%+v, %+v, %v): %#x, %d, for a move that is legal: %t", r, p, m, key, err, is)
			}
		}
	}
	for r, p := range games(100) {
		test(r, p, testkit.Candidates(r))
	}
	r, p := sample()
	test(r, p, testkit.MovesOf(extremes))
	for _, c := range []struct {
		position string
		m        api.Move
	}{
		{samplePosition, api.Move{From: -1, To: 1, Piece: 0}},
		{samplePosition, api.Move{From: -1, To: 0, Piece: 2}},
		{samplePosition, api.Move{From: 1, To: 0, Piece: 0}},
		{samplePosition, api.Move{From: 4, To: 3, Piece: 0}},
		{samplePosition, api.Move{From: 0, To: 3, Piece: 0}},
		{samplePosition, api.Move{From: 7, To: 10, Piece: 0}},
		{samplePosition, api.Move{From: 12, To: 0, Piece: 0}},
		{samplePosition, api.Move{From: -1, To: 12, Piece: 0}},
		{samplePosition, api.Move{From: -2, To: 0, Piece: 0}},
	} {
		if key, err := zob.Change(r, read(t, r, c.position), c.m); key != 0 || err != api.ErrMove {
			t.Errorf("Change of %q by %v: %#x, %d, want 0, %d", c.position, c.m, key, err, api.ErrMove)
		}
	}
}

// TestP130GameOver has positions that are over by all conditions: their moves change the key as before.
func TestP130GameOver(t *testing.T) {
	r := board(3, 1, "A")
	r.Pieces[0].Ways = []api.RuleWay{{DX: 1, Most: 1, Take: api.TakeMay}}
	for _, e := range []api.RuleEnd{{Kind: api.EndLine, Count: 1}, {Kind: api.EndReach}, {Kind: api.EndTake, Count: 64}} {
		for _, loses := range []bool{false, true} {
			e.Loses = loses
			r.Ends, r.Quiet, r.Repeat = []api.RuleEnd{e}, 1, 2
			p := read(t, r, "AAa A1 A1 1 200")
			want := sum(1, 33, 2000, 2008, 3000)
			if got, err := zob.Change(r, p, api.Move{From: 1, To: 2}); got != want || err != api.OK {
				t.Errorf("Change with %+v: %#x, %d, want %#x", e, got, err, want)
			}
		}
	}
}

// withoutQuiet returns the text of a position but Quiet.
func withoutQuiet(r api.Rules, p api.Position) string {
	text, _ := place.Text(r, p)
	return text[:strings.LastIndexByte(text, ' ')]
}

// TestP505ThreeInARow plays all games of three in a row, past their ends too: each of the positions has one key on all ways, and no other position has it.
func TestP505ThreeInARow(t *testing.T) {
	r := board(3, 3, "A")
	r.Pieces[0].Hand = 5
	keys, owners := map[string]uint64{}, map[uint64]string{}
	ways := 0
	var play func(p api.Position, key uint64)
	play = func(p api.Position, key uint64) {
		ways++
		text := withoutQuiet(r, p)
		if known, is := keys[text]; is {
			if key != known {
				t.Fatalf("%q has the keys %#x and %#x", text, known, key)
			}
			return
		}
		if owner, is := owners[key]; is {
			t.Errorf("%q has the key %#x of %q", text, key, owner)
		}
		keys[text], owners[key] = key, text
		l, _ := moves.All(r, p)
		for _, m := range l {
			after, _ := moves.After(r, p, m)
			next, err := zob.Change(r, p, m)
			if err != api.OK {
				t.Fatalf("Change of %q by %v: %d", text, m, err)
			}
			play(after, next)
		}
	}
	begin, _ := place.Begin(r)
	key, _ := zob.Key(r, begin)
	play(begin, key)
	// The sum of 9! / (x! o! (9-x-o)!) over all numbers of moves.
	if len(keys) != 1+9+72+252+756+1260+1680+1260+630+126 || ways <= len(keys) {
		t.Errorf("there are %d positions on %d ways", len(keys), ways)
	}
}

// TestP505Back has pieces that move away and back: the position is the same but for Quiet.
func TestP505Back(t *testing.T) {
	r, _ := ruletext.Parse(sampleRules)
	p := read(t, r, "1k1/3/3/1K1 P2 N3 1 5")
	key, _ := zob.Key(r, p)
	seen := []uint64{key}
	for _, m := range []api.Move{{From: 1, To: 0, Piece: 2}, {From: 10, To: 11, Piece: 2}, {From: 0, To: 1, Piece: 2}, {From: 11, To: 10, Piece: 2}} {
		next, err := zob.Change(r, p, m)
		if err != api.OK || slices.Contains(seen, next) != (m.From == 11) {
			t.Errorf("after %v the key is %#x, %d, and the ones before were %#x", m, next, err, seen)
		}
		p, _ = moves.After(r, p, m)
		seen = append(seen, next)
	}
	if seen[4] != key || p.Quiet != 9 {
		t.Errorf("the keys are %#x, and Quiet is %d", seen, p.Quiet)
	}
}

// walk plays up to so many moves that are chosen at random, and calls visit with each position and the key to which Change has led.
func walk(t *testing.T, r api.Rules, p api.Position, choose func(n int) int, n int, visit func(p api.Position, key uint64)) {
	t.Helper()
	key := hold(t, r, p)
	for range n {
		visit(p, key)
		l, _ := moves.All(r, p)
		if len(l) == 0 {
			return
		}
		m := l[choose(len(l))]
		next, err := zob.Change(r, p, m)
		if err != api.OK {
			t.Fatalf("Change(%+v, %+v, %v): %d", r, p, m, err)
		}
		key = next
		p, _ = moves.After(r, p, m)
	}
}

// TestP505Games plays games in which the same positions occur on many ways.
func TestP505Games(t *testing.T) {
	r, _ := ruletext.Parse(sampleRules)
	random := rand.New(rand.NewPCG(8, 505))
	keys := map[string]uint64{}
	again := 0
	for range 40 {
		walk(t, r, read(t, r, "1k1/3/n1N/1K1 P1 P1 1 0"), random.IntN, 100, func(p api.Position, key uint64) {
			text := withoutQuiet(r, p)
			if known, is := keys[text]; is && known != key {
				t.Fatalf("%q has the keys %#x and %#x", text, known, key)
			} else if is {
				again++
			}
			keys[text] = key
		})
	}
	if again < 100 || len(keys) < 500 {
		t.Errorf("%d positions occurred, and %d times one occurred again", len(keys), again)
	}
}

// TestP130Games plays games of all kinds with Change alone, and holds it against Key at each position.
func TestP130Games(t *testing.T) {
	random := rand.New(rand.NewPCG(8, 130))
	positions := 0
	for range 300 {
		r, p := testkit.AnyGame(random.IntN)
		walk(t, r, p, random.IntN, 40, func(p api.Position, key uint64) {
			if want := hold(t, r, p); key != want {
				t.Fatalf("Change leads to %#x for %+v, want %#x", key, p, want)
			}
			positions++
		})
	}
	if positions < 3000 {
		t.Errorf("the games had %d positions only", positions)
	}
}
