package geom_test

import (
	"fmt"
	"math"
	"math/rand"
	"testing"

	"hindcast/api"
	"hindcast/geom"
)

const (
	lowest  = math.MinInt32
	highest = math.MaxInt32
)

// starts and lengths are those of a box along one axis: both limits, 0, and what is beside them.
var (
	starts  = []int32{lowest, lowest + 1, lowest + 4, -5, -1, 0, 1, 3, 4, highest - 4, highest - 1, highest}
	lengths = []int32{lowest, lowest + 1, -3, -1, 0, 1, 2, 4, 5, highest - 1, highest}
)

// numbers are arguments of Move.
var numbers = []int32{lowest, lowest + 1, lowest / 2, -10, -9, -1, 0, 1, 5, 9, 10, highest / 2, highest - 1, highest}

func box(x, y, w, h int32) api.Box { return api.Box{X: x, Y: y, W: w, H: h} }

// turned is b with its axes changed about.
func turned(b api.Box) api.Box { return box(b.Y, b.X, b.H, b.W) }

// span is an interval as a box has it along one axis. The sums of two numbers of 32 bits fit into 64, so that no integer's width has a part in what is worked out here.
type span struct{ from, length int64 }

func spans(b api.Box) [2]span {
	return [2]span{{int64(b.X), int64(b.W)}, {int64(b.Y), int64(b.H)}}
}

// counted is P7.3's: a length below 0 counts as 0.
func (s span) counted() span { return span{s.from, max(s.length, 0)} }

func (s span) contains(n int64) bool { return s.from <= n && n < s.from+s.length }

// contains is the chapter's definition of what a box contains.
func contains(b api.Box, x, y int64) bool {
	l := spans(b)
	return l[0].contains(x) && l[1].contains(y)
}

func bounded(n int64) int32 {
	if n < lowest {
		return lowest
	}
	if n > highest {
		return highest
	}
	return int32(n)
}

// common is whether both have a point in common: if so, then one whose x is the X of one of them, and whose y is the Y of one of them.
func common(a, b api.Box) bool {
	for _, x := range []int32{a.X, b.X} {
		for _, y := range []int32{a.Y, b.Y} {
			if contains(a, int64(x), int64(y)) && contains(b, int64(x), int64(y)) {
				return true
			}
		}
	}
	return false
}

// within is whether a has a point, and b has a's first one and its last one, and so all between them.
func within(a, b api.Box) bool {
	x, y := int64(a.X), int64(a.Y)
	endX, endY := x+int64(a.W)-1, y+int64(a.H)-1
	return contains(a, x, y) && contains(b, x, y) && contains(b, endX, endY)
}

// gap is P7.3's, word by word.
func gap(a, b span) int64 {
	a, b = a.counted(), b.counted()
	if n := b.from - (a.from + a.length); n > 0 {
		return n
	}
	if n := a.from - (b.from + b.length); n > 0 {
		return n
	}
	return 0
}

func near(a, b api.Box) int32 {
	p, q := spans(a), spans(b)
	return bounded(max(gap(p[0], q[0]), gap(p[1], q[1])))
}

// middle shifts, which rounds down.
func middle(s span) int32 {
	s = s.counted()
	return bounded(s.from + s.length>>1)
}

// moved is P7.2, word by word.
func moved(x, v, low, high int32) (int32, int32) {
	sum := int64(x) + int64(v)
	if low > high {
		return low, 0
	}
	if sum < int64(low) {
		return low, 0
	}
	if sum > int64(high) {
		return high, 0
	}
	return int32(sum), v
}

func same[T comparable](t *testing.T, call string, got, want T) {
	t.Helper()
	if got != want {
		t.Errorf("%s: %v, not %v", call, got, want)
	}
}

func named[T any](call string, args ...T) string {
	return fmt.Sprintf("%s%v", call, args)
}

func overTo(t *testing.T, a, b api.Box, want bool) {
	t.Helper()
	if geom.Over(a, b) != want {
		t.Errorf("Over(%v, %v): %v", a, b, !want)
	}
}

func insideTo(t *testing.T, a, b api.Box, want bool) {
	t.Helper()
	if geom.Inside(a, b) != want {
		t.Errorf("Inside(%v, %v): %v", a, b, !want)
	}
}

func moveTo(t *testing.T, x, v, low, high, end, speed int32) {
	t.Helper()
	if gotEnd, gotSpeed := geom.Move(x, v, low, high); gotEnd != end || gotSpeed != speed {
		t.Errorf("Move(%d, %d, %d, %d): %d %d, not %d %d", x, v, low, high, gotEnd, gotSpeed, end, speed)
	}
}

func nearTo(t *testing.T, a, b api.Box, want int32) {
	t.Helper()
	if n := geom.Near(a, b); n != want {
		t.Errorf("Near(%v, %v): %d, not %d", a, b, n, want)
	}
}

func centreTo(t *testing.T, b api.Box, x, y int32) {
	t.Helper()
	if gotX, gotY := geom.Centre(b); gotX != x || gotY != y {
		t.Errorf("Centre(%v): %d %d, not %d %d", b, gotX, gotY, x, y)
	}
}

// smallBoxes are all boxes of a few points, and such without one.
func smallBoxes() []api.Box {
	var l []api.Box
	for code := range int32(5 * 5 * 5 * 5) {
		l = append(l, box(code%5-2, code/5%5-2, code/25%5-1, code/125-1))
	}
	return l
}

// points has a bit for each point of a box of smallBoxes: these are from -2 to 4 on both axes.
func points(b api.Box) uint64 {
	bits := uint64(0)
	for i := range int64(49) {
		if contains(b, i%7-2, i/7-2) {
			bits |= 1 << i
		}
	}
	return bits
}

func anySize(r *rand.Rand) int32 { return int32(r.Uint32()) >> r.Intn(32) }

// anyBox has a place and sides of any sizes, small ones as often as great ones, so that many overlap.
func anyBox(r *rand.Rand) api.Box {
	return box(anySize(r), anySize(r), anySize(r), anySize(r))
}

// pairs are the edges along each axis, beside such boxes' other axes as are over one another, touch, are apart, or are none; and any boxes, the same ones in each run.
func pairs() [][2]api.Box {
	var l [][2]api.Box
	others := [][2]int32{{0, 4}, {2, 4}, {4, 4}, {9, 1}, {1, 2}, {1, 0}, {1, -1}}
	for _, x := range starts {
		for _, w := range lengths {
			for _, otherX := range starts {
				for _, otherW := range lengths {
					y := others[len(l)/2%len(others)]
					a, b := box(x, 0, w, 4), box(otherX, y[0], otherW, y[1])
					l = append(l, [2]api.Box{a, b}, [2]api.Box{turned(a), turned(b)})
				}
			}
		}
	}
	r := rand.New(rand.NewSource(1))
	for range 100000 {
		l = append(l, [2]api.Box{anyBox(r), anyBox(r)})
	}
	return l
}

// moves are arguments of Move: all of numbers in each place, and any, the same ones in each run.
func moves() [][4]int32 {
	var l [][4]int32
	for _, x := range numbers {
		for _, v := range numbers {
			for _, low := range numbers {
				for _, high := range numbers {
					l = append(l, [4]int32{x, v, low, high})
				}
			}
		}
	}
	r := rand.New(rand.NewSource(2))
	for range 100000 {
		l = append(l, [4]int32{anySize(r), anySize(r), anySize(r), anySize(r)})
	}
	return l
}

// TestExamples holds every row of the chapter's examples.
func TestExamples(t *testing.T) {
	overTo(t, box(0, 0, 4, 4), box(3, 3, 4, 4), true)
	overTo(t, box(0, 0, 4, 4), box(4, 0, 4, 4), false)
	overTo(t, box(0, 0, 4, 4), box(1, 1, 0, 2), false)
	overTo(t, box(2147483647, 0, 5, 5), box(-2147483648, 0, 1, 5), false)

	insideTo(t, box(1, 1, 2, 2), box(0, 0, 4, 4), true)
	insideTo(t, box(1, 1, 4, 2), box(0, 0, 4, 4), false)
	insideTo(t, box(1, 1, 0, 0), box(0, 0, 4, 4), false)

	moveTo(t, 5, 3, 0, 10, 8, 3)
	moveTo(t, 5, 9, 0, 10, 10, 0)
	moveTo(t, 5, -9, 0, 10, 0, 0)
	moveTo(t, 5, 5, 0, 10, 10, 5)
	moveTo(t, 2147483647, 1, 0, 2147483647, 2147483647, 0)
	moveTo(t, 5, 1, 9, 3, 9, 0)

	nearTo(t, box(0, 0, 4, 4), box(7, 0, 1, 1), 3)
	nearTo(t, box(0, 0, 4, 4), box(4, 9, 1, 1), 5)
	nearTo(t, box(-2147483648, 0, 1, 1), box(2147483647, 0, 1, 1), 2147483647)
	nearTo(t, box(5, 5, -3, 1), box(7, 5, 1, 1), 2)

	centreTo(t, box(0, 0, 5, 4), 2, 2)
	centreTo(t, box(-3, 0, 1, 1), -3, 0)
	centreTo(t, box(2147483647, 0, 9, -9), 2147483647, 0)
}

// TestByPoints: P7.1, for all small boxes, by their points one by one.
func TestByPoints(t *testing.T) {
	l := smallBoxes()
	of := make([]uint64, len(l))
	for i, b := range l {
		of[i] = points(b)
	}
	for i, a := range l {
		for k, b := range l {
			overTo(t, a, b, of[i]&of[k] != 0)
			insideTo(t, a, b, of[i] != 0 && of[i]&^of[k] == 0)
		}
	}
}

// TestWithoutPoint: P7.1: a box with W or H of 0 or below, or both, has no point in common with any, is inside none, and none is inside it.
func TestWithoutPoint(t *testing.T) {
	some := []api.Box{box(0, 0, 4, 4), box(-10, -10, 20, 20), box(lowest, lowest, highest, highest)}
	for _, n := range []int32{0, -1, -2, lowest + 1, lowest} {
		for _, none := range []api.Box{box(1, 1, n, 2), box(1, 1, 2, n), box(1, 1, n, n), box(-1, -1, n, 2), box(lowest, lowest, n, n)} {
			for _, b := range append(some, none) {
				overTo(t, none, b, false)
				overTo(t, b, none, false)
				insideTo(t, none, b, false)
				insideTo(t, b, none, false)
			}
		}
	}
}

// TestTouching: P7.1: boxes at each side of another one, and at each corner, have no point in common with it; one point closer they have.
func TestTouching(t *testing.T) {
	a := box(10, 20, 4, 6)
	for _, x := range []int32{7, 10, 14} {
		for _, y := range []int32{17, 20, 26} {
			b := box(x, y, 3, 3)
			overTo(t, a, b, x == 10 && y == 20)
			overTo(t, b, a, x == 10 && y == 20)
		}
	}
	for _, x := range []int32{8, 10, 13} {
		for _, y := range []int32{18, 20, 25} {
			overTo(t, a, box(x, y, 3, 3), true)
			overTo(t, box(x, y, 3, 3), a, true)
		}
	}
}

// TestInsideAtSides: P7.1: a box inside another one may have a part of its sides, but none of its points beyond them.
func TestInsideAtSides(t *testing.T) {
	b := box(10, 20, 4, 6)
	for _, in := range []api.Box{box(10, 20, 1, 1), box(13, 20, 1, 6), box(10, 25, 4, 1), box(13, 25, 1, 1), box(11, 21, 2, 4)} {
		insideTo(t, in, b, true)
		insideTo(t, b, in, false)
	}
	for _, out := range []api.Box{box(9, 20, 4, 6), box(10, 19, 4, 6), box(10, 20, 5, 6), box(10, 20, 4, 7), box(9, 19, 6, 8), box(14, 20, 1, 1), box(10, 26, 1, 1), box(9, 25, 1, 1), box(13, 19, 1, 1)} {
		insideTo(t, out, b, false)
	}
}

// TestBeyond: P7.1: sides beyond both limits of 32 bits do not come round to the other end.
func TestBeyond(t *testing.T) {
	overTo(t, box(highest-1, 0, highest, 1), box(highest, 0, 1, 1), true)
	overTo(t, box(highest, 0, highest, 1), box(lowest, 0, 9, 1), false)
	overTo(t, box(0, highest, 1, highest), box(0, lowest, 1, 9), false)
	overTo(t, box(1, 0, highest, 1), box(highest, 0, 1, 1), true)
	overTo(t, box(lowest, 0, highest, 1), box(-2, 0, 1, 1), true)
	overTo(t, box(lowest, 0, highest, 1), box(-1, 0, 1, 1), false)
	overTo(t, box(lowest, 0, lowest, 1), box(0, 0, 1, 1), false)
	overTo(t, box(0, lowest, 1, -1), box(0, highest, 1, 1), false)

	insideTo(t, box(highest, 0, 9, 1), box(highest-1, 0, 10, 1), true)
	insideTo(t, box(highest, 0, 9, 1), box(highest-1, 0, 9, 1), false)
	insideTo(t, box(highest, 0, 1, 1), box(0, 0, highest, 1), false)
	insideTo(t, box(highest-1, 0, 1, 1), box(0, 0, highest, 1), true)
	insideTo(t, box(0, highest, 1, 2), box(0, 1, 1, highest), false)
	insideTo(t, box(0, highest, 1, 1), box(0, 1, 1, highest), true)
}

// TestWithItself: P7.1: a box that has a point overlaps itself, and is inside itself; another one does neither.
func TestWithItself(t *testing.T) {
	for _, p := range pairs() {
		some := p[0].W > 0 && p[0].H > 0
		overTo(t, p[0], p[0], some)
		insideTo(t, p[0], p[0], some)
	}
}

// TestOverInside: P7.1, for boxes of all sizes.
func TestOverInside(t *testing.T) {
	for _, p := range pairs() {
		a, b := p[0], p[1]
		overTo(t, a, b, common(a, b))
		insideTo(t, a, b, within(a, b))
		insideTo(t, b, a, within(b, a))
	}
}

// TestMove: P7.2, for all of numbers in each place, and for any.
func TestMove(t *testing.T) {
	for _, m := range moves() {
		end, speed := moved(m[0], m[1], m[2], m[3])
		moveTo(t, m[0], m[1], m[2], m[3], end, speed)
	}
}

// TestMoveEdges: P7.2: walls that are the wrong way round, or in one place, a start beyond them, no speed, and sums beyond 32 bits.
func TestMoveEdges(t *testing.T) {
	moveTo(t, 8, 1, 9, 3, 9, 0) // the sum is low
	moveTo(t, 9, 0, 9, 3, 9, 0)
	moveTo(t, 2, 1, 9, 3, 9, 0) // the sum is high
	moveTo(t, 20, 5, 9, 8, 9, 0)
	moveTo(t, 0, highest, highest, lowest, highest, 0)
	moveTo(t, 0, lowest, lowest+1, lowest, lowest+1, 0)

	moveTo(t, 3, 2, 5, 5, 5, 2)
	moveTo(t, 3, 1, 5, 5, 5, 0)
	moveTo(t, 3, 3, 5, 5, 5, 0)
	moveTo(t, 5, 0, 5, 5, 5, 0)

	moveTo(t, -5, 3, 0, 10, 0, 0)
	moveTo(t, -5, 5, 0, 10, 0, 5)
	moveTo(t, -5, 8, 0, 10, 3, 8)
	moveTo(t, -5, 99, 0, 10, 10, 0)
	moveTo(t, 15, -3, 0, 10, 10, 0)
	moveTo(t, 15, -5, 0, 10, 10, -5)
	moveTo(t, 15, -8, 0, 10, 7, -8)
	moveTo(t, 15, -99, 0, 10, 0, 0)

	moveTo(t, 5, 0, 0, 10, 5, 0)
	moveTo(t, -5, 0, 0, 10, 0, 0)
	moveTo(t, 15, 0, 0, 10, 10, 0)
	moveTo(t, 5, -5, 0, 10, 0, -5)

	moveTo(t, lowest, lowest, -7, 7, -7, 0)
	moveTo(t, lowest, -1, lowest, highest, lowest, 0)
	moveTo(t, highest, highest, -7, 7, 7, 0)
	moveTo(t, highest, lowest, -7, 7, -1, lowest)
	moveTo(t, lowest, highest, -7, 7, -1, highest)
	moveTo(t, lowest, highest, 0, highest, 0, 0)
}

// TestNear: P7.3, for boxes of all sizes.
func TestNear(t *testing.T) {
	for _, p := range pairs() {
		nearTo(t, p[0], p[1], near(p[0], p[1]))
	}
}

// TestNearEdges: P7.3: over one another, touching, apart along one axis or both, sides below 0, and gaps beyond 32 bits.
func TestNearEdges(t *testing.T) {
	a := box(10, 20, 4, 6)
	for _, b := range []api.Box{a, box(12, 22, 9, 9), box(11, 21, 1, 1), box(0, 0, 99, 99), box(14, 20, 1, 1), box(10, 26, 1, 1), box(7, 20, 3, 1), box(10, 17, 1, 3), box(14, 26, 1, 1), box(7, 17, 3, 3), box(14, 26, 0, 0)} {
		nearTo(t, a, b, 0)
	}
	for _, apart := range []int32{1, 2, 100} {
		for _, b := range []api.Box{box(14+apart, 20, 1, 1), box(10, 26+apart, 1, 1), box(8-apart, 20, 2, 1), box(10, 18-apart, 1, 2)} {
			nearTo(t, a, b, apart)
		}
		nearTo(t, a, box(14+apart, 26+2*apart, 1, 1), 2*apart)
		nearTo(t, a, box(14+2*apart, 26+apart, 1, 1), 2*apart)
		nearTo(t, a, box(8-2*apart, 26+apart, 2, 1), 2*apart)
		nearTo(t, a, box(14+apart, 26+apart, 1, 1), apart)
	}
	for _, n := range []int32{0, -1, -3, lowest} {
		nearTo(t, a, box(17, 20, n, n), 3)
		nearTo(t, a, box(7, 20, n, 1), 3)
		nearTo(t, a, box(10, 17, 1, n), 3)
		nearTo(t, box(10, 20, n, n), box(14, 20, n, n), 4)
		nearTo(t, a, box(11, 21, n, n), 0)
	}
	nearTo(t, box(lowest, 0, highest, 1), box(highest, 0, 1, 1), highest)
	nearTo(t, box(0, 0, 1, 1), box(highest, 0, 1, 1), highest-1)
	nearTo(t, box(-1, 0, 1, 1), box(highest, 0, 1, 1), highest)
	nearTo(t, box(-2, 0, 1, 1), box(highest, 0, 1, 1), highest)
	nearTo(t, box(0, lowest, 1, lowest), box(0, highest, 1, highest), highest)
	nearTo(t, box(highest, 0, highest, 1), box(lowest, 0, 0, 1), highest)
	nearTo(t, box(1, 0, highest, 1), box(highest, 0, 1, 1), 0)
}

// TestCentre: P7.3, for boxes of all sizes.
func TestCentre(t *testing.T) {
	for _, p := range pairs() {
		l := spans(p[0])
		centreTo(t, p[0], middle(l[0]), middle(l[1]))
	}
}

// TestCentreEdges: P7.3: sides that are odd, even, 0 or below, places below 0, and sums beyond 32 bits.
func TestCentreEdges(t *testing.T) {
	centreTo(t, box(10, 20, 1, 2), 10, 21)
	centreTo(t, box(10, 20, 3, 4), 11, 22)
	centreTo(t, box(10, 20, 0, 0), 10, 20)
	centreTo(t, box(10, 20, -1, -2), 10, 20)
	centreTo(t, box(10, 20, lowest, 7), 10, 23)
	centreTo(t, box(10, 20, 7, lowest), 13, 20)
	centreTo(t, box(-10, -21, 5, 5), -8, -19)
	centreTo(t, box(-1, -2, 1, 3), -1, -1)
	centreTo(t, box(-1, -1, 4, 2), 1, 0)
	centreTo(t, box(highest, highest-1, 1, 2), highest, highest)
	centreTo(t, box(highest-1, highest, 4, 2), highest, highest)
	centreTo(t, box(highest, highest, highest, highest), highest, highest)
	centreTo(t, box(lowest, lowest, lowest, highest), lowest, -1073741825)
}

// TestOverBothWays: P7.4: Over is symmetric.
func TestOverBothWays(t *testing.T) {
	for _, p := range pairs() {
		overTo(t, p[0], p[1], geom.Over(p[1], p[0]))
	}
}

// TestPointOfBoth: P7.4: the point of the greater X and the greater Y is in both boxes, just if they overlap.
func TestPointOfBoth(t *testing.T) {
	for _, p := range pairs() {
		a, b := p[0], p[1]
		x, y := int64(max(a.X, b.X)), int64(max(a.Y, b.Y))
		overTo(t, a, b, contains(a, x, y) && contains(b, x, y))
	}
}

// TestInsideOverlaps: P7.4: a box that is inside another one overlaps it.
func TestInsideOverlaps(t *testing.T) {
	times := 0
	for _, p := range pairs() {
		if geom.Inside(p[0], p[1]) {
			overTo(t, p[0], p[1], true)
			times++
		}
	}
	if times < 100 {
		t.Errorf("just %d boxes are inside others", times)
	}
}

// TestNearBothWays: P7.5: Near is symmetric, and 0 for boxes that overlap.
func TestNearBothWays(t *testing.T) {
	for _, p := range pairs() {
		nearTo(t, p[0], p[1], geom.Near(p[1], p[0]))
		if geom.Over(p[0], p[1]) {
			nearTo(t, p[0], p[1], 0)
		}
	}
}

// TestMoveWithinWalls: P7.5: a move ends within walls that are the right way round.
func TestMoveWithinWalls(t *testing.T) {
	for _, m := range moves() {
		low, high := min(m[2], m[3]), max(m[2], m[3])
		if end, _ := geom.Move(m[0], m[1], low, high); end < low || end > high {
			t.Errorf("%s: %d", named("Move", m[0], m[1], low, high), end)
		}
	}
}

// TestMoveAgain: P7.5: the same move from where one ended stays there, or goes on the same way, and not beyond the walls.
func TestMoveAgain(t *testing.T) {
	for _, m := range moves() {
		v, low, high := m[1], min(m[2], m[3]), max(m[2], m[3])
		end, _ := geom.Move(m[0], v, low, high)
		next, speed := geom.Move(end, v, low, high)
		if v < 0 {
			same(t, named("Move again", m[0], v, low, high), next, max(low, bounded(int64(end)+int64(v))))
		} else {
			same(t, named("Move again", m[0], v, low, high), next, min(high, bounded(int64(end)+int64(v))))
		}
		if speed != 0 {
			same(t, named("the speed of a move again", m[0], v, low, high), speed, v)
			same(t, named("the way of a move again", m[0], v, low, high), int64(next)-int64(end), int64(v))
		}
	}
}

// TestMoveAtWall: P7.5: what was stopped by the wall that it moves towards ends there again, however often it moves.
func TestMoveAtWall(t *testing.T) {
	for _, m := range moves() {
		v, low, high := m[1], min(m[2], m[3]), max(m[2], m[3])
		end, speed := geom.Move(m[0], v, low, high)
		if speed == 0 && (v >= 0 && end == high || v <= 0 && end == low) {
			moveTo(t, end, v, low, high, end, 0)
			moveTo(t, end, 0, low, high, end, 0)
		}
	}
}
