package fixed_test

import (
	"fmt"
	"math"
	"math/big"
	"math/rand"
	"testing"

	"hindcast/fixed"
)

const (
	lowest  = fixed.Num(math.MinInt32)
	highest = fixed.Num(math.MaxInt32)
)

// edges are the numbers at which the chapter's rules change: both limits, 0, the whole number 1, and what is beside them.
var edges = []fixed.Num{
	lowest, lowest + 1, lowest / 2, -65537, -65536, -513, -512, -511, -257, -256, -255, -7, -2, -1, 0,
	1, 2, 7, 16, 255, 256, 257, 511, 512, 513, 1024, 65535, 65536, 65537, 741455, 741456,
	highest / 2, highest - 1, highest,
}

// pairs are all pairs of edges, and many others of all sizes, the same ones in each run.
func pairs() [][2]fixed.Num {
	var l [][2]fixed.Num
	for _, a := range edges {
		for _, b := range edges {
			l = append(l, [2]fixed.Num{a, b})
		}
	}
	r := rand.New(rand.NewSource(1))
	for range 20000 {
		l = append(l, [2]fixed.Num{anySize(r), anySize(r)})
	}
	return l
}

func anySize(r *rand.Rand) fixed.Num {
	return fixed.Num(int32(r.Uint32()) >> r.Intn(32))
}

func numbers() []fixed.Num {
	var l []fixed.Num
	for _, p := range pairs() {
		l = append(l, p[0])
	}
	return l
}

// bounded is the chapter's bounding of an integer of any size.
func bounded(n *big.Int) fixed.Num {
	if n.Cmp(big.NewInt(math.MinInt32)) < 0 {
		return lowest
	}
	if n.Cmp(big.NewInt(math.MaxInt32)) > 0 {
		return highest
	}
	return fixed.Num(n.Int64())
}

// floor is a divided by b, rounded down; b is not 0.
func floor(a, b *big.Int) *big.Int {
	if b.Sign() < 0 {
		a, b = new(big.Int).Neg(a), new(big.Int).Neg(b)
	}
	return new(big.Int).Div(a, b) // rounds down where b is above 0
}

func whole(n fixed.Num) *big.Int { return big.NewInt(int64(n)) }

func product(a, b *big.Int) *big.Int { return new(big.Int).Mul(a, b) }

func same[T comparable](t *testing.T, call string, got, want T) {
	t.Helper()
	if got != want {
		t.Errorf("%s: %v, not %v", call, got, want)
	}
}

func named[T any](call string, args ...T) string {
	return fmt.Sprintf("%s%v", call, args)
}

// TestExamples holds every row of the chapter's examples (P1.1, P1.2, P1.3).
func TestExamples(t *testing.T) {
	same(t, "Of(3)", fixed.Of(3), 768)
	same(t, "Of(-9000000)", fixed.Of(-9000000), -2147483648)
	same(t, "Whole(-1)", fixed.Whole(-1), -1)
	same(t, "Whole(511)", fixed.Whole(511), 1)

	same(t, "Add(2147483647, 1)", fixed.Add(2147483647, 1), 2147483647)
	same(t, "Sub(-2147483648, 1)", fixed.Sub(-2147483648, 1), -2147483648)
	same(t, "Neg(-2147483648)", fixed.Neg(-2147483648), 2147483647)
	same(t, "Abs(-5)", fixed.Abs(-5), 5)

	same(t, "Mul(384, 384)", fixed.Mul(384, 384), 576)
	same(t, "Mul(-1, 1)", fixed.Mul(-1, 1), -1)
	same(t, "Mul(2147483647, 512)", fixed.Mul(2147483647, 512), 2147483647)

	same(t, "Div(256, 768)", fixed.Div(256, 768), 85)
	same(t, "Div(-1, 512)", fixed.Div(-1, 512), -1)
	same(t, "Div(1, 0)", fixed.Div(1, 0), 2147483647)
	same(t, "Div(0, 0)", fixed.Div(0, 0), 0)
	same(t, "Div(-2147483648, -1)", fixed.Div(-2147483648, -1), 2147483647)

	same(t, "Clamp(5, 1, 3)", fixed.Clamp(5, 1, 3), 3)
	same(t, "Clamp(0, 1, 3)", fixed.Clamp(0, 1, 3), 1)
	same(t, "Clamp(2, 9, 3)", fixed.Clamp(2, 9, 3), 9)
	same(t, "Trunc(-7, 2)", fixed.Trunc(-7, 2), -3)
	same(t, "Trunc(7, 0)", fixed.Trunc(7, 0), 0)

	same(t, "Root(1024)", fixed.Root(1024), 512)
	same(t, "Root(1)", fixed.Root(1), 16)
	same(t, "Root(-1)", fixed.Root(-1), 0)
	same(t, "Root(2147483647)", fixed.Root(2147483647), 741455)
}

// TestOf: P1.1, with whole numbers on both sides of where the product leaves the limits, and of where it would leave an int.
func TestOf(t *testing.T) {
	l := []int{
		math.MinInt, math.MinInt + 1, math.MinInt / 256, math.MinInt/256 - 1, math.MinInt32 - 1, math.MinInt32,
		-8388609, -8388608, -8388607, -2, -1, 0, 1, 2, 8388606, 8388607, 8388608,
		math.MaxInt32, math.MaxInt32 + 1, math.MaxInt/256 + 1, math.MaxInt / 256, math.MaxInt - 1, math.MaxInt,
	}
	r := rand.New(rand.NewSource(2))
	for range 20000 {
		l = append(l, int(r.Uint64())>>r.Intn(64))
	}
	for _, n := range l {
		want := bounded(product(big.NewInt(int64(n)), big.NewInt(256)))
		same(t, named("Of", n), fixed.Of(n), want)
	}
}

// TestWhole: P1.1; below 0 it rounds down, not toward 0.
func TestWhole(t *testing.T) {
	same(t, "Whole(-255)", fixed.Whole(-255), -1)
	same(t, "Whole(-256)", fixed.Whole(-256), -1)
	same(t, "Whole(-257)", fixed.Whole(-257), -2)
	for _, n := range numbers() {
		want := int(floor(whole(n), big.NewInt(256)).Int64())
		same(t, named("Whole", n), fixed.Whole(n), want)
	}
	for n := -8388608; n <= 8388607; n += 4099 {
		same(t, named("Whole of Of", n), fixed.Whole(fixed.Of(n)), n)
	}
}

// TestAddSub: P1.1, with sums and differences beyond each limit.
func TestAddSub(t *testing.T) {
	same(t, "Add of both lowest", fixed.Add(lowest, lowest), lowest)
	same(t, "Sub of lowest from 0", fixed.Sub(0, lowest), highest)
	same(t, "Add of both limits", fixed.Add(lowest, highest), -1)
	for _, p := range pairs() {
		a, b := p[0], p[1]
		same(t, named("Add", a, b), fixed.Add(a, b), bounded(new(big.Int).Add(whole(a), whole(b))))
		same(t, named("Sub", a, b), fixed.Sub(a, b), bounded(new(big.Int).Sub(whole(a), whole(b))))
	}
}

// TestNegAbs: P1.1; the lower limit has no opposite within the limits.
func TestNegAbs(t *testing.T) {
	same(t, "Neg of highest", fixed.Neg(highest), lowest+1)
	same(t, "Abs of lowest", fixed.Abs(lowest), highest)
	for _, n := range numbers() {
		same(t, named("Neg", n), fixed.Neg(n), bounded(new(big.Int).Neg(whole(n))))
		same(t, named("Abs", n), fixed.Abs(n), bounded(new(big.Int).Abs(whole(n))))
	}
}

// TestMul: P1.2, with products beyond each limit, and such below 0 that are no multiples of 256.
func TestMul(t *testing.T) {
	same(t, "Mul(-3, 128)", fixed.Mul(-3, 128), -2)
	same(t, "Mul of both lowest", fixed.Mul(lowest, lowest), highest)
	same(t, "Mul of both limits", fixed.Mul(lowest, highest), lowest)
	for _, p := range pairs() {
		a, b := p[0], p[1]
		want := bounded(floor(product(whole(a), whole(b)), big.NewInt(256)))
		same(t, named("Mul", a, b), fixed.Mul(a, b), want)
	}
}

// TestDiv: P1.2, with each sign on each side, and quotients beyond each limit.
func TestDiv(t *testing.T) {
	same(t, "Div(1, -512)", fixed.Div(1, -512), -1)
	same(t, "Div(-1, -512)", fixed.Div(-1, -512), 0)
	same(t, "Div(-2, 512)", fixed.Div(-2, 512), -1)
	same(t, "Div of highest by -1", fixed.Div(highest, -1), lowest)
	for _, p := range pairs() {
		a, b := p[0], p[1]
		if b != 0 {
			want := bounded(floor(product(whole(a), big.NewInt(256)), whole(b)))
			same(t, named("Div", a, b), fixed.Div(a, b), want)
		}
	}
}

// TestDivBy0: P1.2.
func TestDivBy0(t *testing.T) {
	for _, a := range numbers() {
		want := fixed.Num(0)
		if a > 0 {
			want = highest
		} else if a < 0 {
			want = lowest
		}
		same(t, named("Div by 0", a), fixed.Div(a, 0), want)
	}
}

// TestClamp: P1.3, in words of its own: an order of limits that are the wrong way round answers low, whatever n is.
func TestClamp(t *testing.T) {
	for _, p := range pairs() {
		n, low := p[0], p[1]
		for _, high := range []fixed.Num{lowest, -257, -1, 0, 3, 256, low, n, highest} {
			want := low
			if low <= high {
				want = max(low, min(n, high))
			}
			same(t, named("Clamp", n, low, high), fixed.Clamp(n, low, high), want)
		}
	}
	for _, n := range edges {
		same(t, named("Clamp, high below low", n), fixed.Clamp(n, 9, 3), 9)
	}
}

// TestTrunc: P1.3; below 0 it rounds toward 0, not down.
func TestTrunc(t *testing.T) {
	same(t, "Trunc(7, -2)", fixed.Trunc(7, -2), -3)
	same(t, "Trunc(-7, -2)", fixed.Trunc(-7, -2), 3)
	same(t, "Trunc(-1, 2)", fixed.Trunc(-1, 2), 0)
	same(t, "Trunc of lowest by -1", fixed.Trunc(lowest, -1), highest)
	same(t, "Trunc of highest by lowest", fixed.Trunc(highest, math.MinInt32), 0)
	for _, p := range pairs() {
		n, by := p[0], int32(p[1])
		want := fixed.Num(0)
		if by != 0 {
			want = bounded(new(big.Int).Quo(whole(n), big.NewInt(int64(by))))
		}
		same(t, named("Trunc", n, p[1]), fixed.Trunc(n, by), want)
	}
}

// TestRoot: P1.3 and P1.4: the square is not above 256 times n, and that of the next number is.
func TestRoot(t *testing.T) {
	same(t, "Root(0)", fixed.Root(0), 0)
	same(t, "Root(256)", fixed.Root(256), 256)
	same(t, "Root of lowest", fixed.Root(lowest), 0)
	for n := range fixed.Num(70000) {
		checkRoot(t, n)
	}
	for _, n := range numbers() {
		checkRoot(t, n)
	}
	for n := highest; n > highest-70000; n-- {
		checkRoot(t, n)
	}
}

// TestRootBesideSquares: P1.3 and P1.4: a root that is off by one shows where 256 times n is a square, or is just below one.
func TestRootBesideSquares(t *testing.T) {
	for k := int64(1); k*k <= math.MaxInt32; k++ {
		n := fixed.Num(k * k)
		same(t, named("Root of a square", n), fixed.Root(n), fixed.Num(16*k))
		checkRoot(t, n-1)
	}
}

func checkRoot(t *testing.T, n fixed.Num) {
	t.Helper()
	r := int64(fixed.Root(n))
	if n < 0 {
		same(t, named("Root", n), r, 0)
		return
	}
	if r < 0 || r*r > 256*int64(n) || (r+1)*(r+1) <= 256*int64(n) {
		t.Errorf("Root(%d): %d", n, r)
	}
}

// TestDivIsGreatest: P1.4 of Div.
func TestDivIsGreatest(t *testing.T) {
	for _, p := range pairs() {
		a, b := p[0], p[1]
		q := fixed.Div(a, b)
		if b <= 0 || q == lowest || q == highest {
			continue
		}
		if int64(q)*int64(b) > 256*int64(a) || (int64(q)+1)*int64(b) <= 256*int64(a) {
			t.Errorf("Div(%d, %d): %d", a, b, q)
		}
	}
}

// TestCommutative: P1.5.
func TestCommutative(t *testing.T) {
	for _, p := range pairs() {
		a, b := p[0], p[1]
		same(t, named("Add, both ways", a, b), fixed.Add(a, b), fixed.Add(b, a))
		same(t, named("Mul, both ways", a, b), fixed.Mul(a, b), fixed.Mul(b, a))
	}
}

// TestMonotone: P1.5: a greater summand, or a greater factor beside one that is not below 0, gives no lesser result.
func TestMonotone(t *testing.T) {
	for _, p := range pairs() {
		less, more := min(p[0], p[1]), max(p[0], p[1])
		for _, c := range edges {
			if fixed.Add(less, c) > fixed.Add(more, c) {
				t.Errorf("Add of %d: more for %d than for %d", c, less, more)
			}
			if c >= 0 && fixed.Mul(less, c) > fixed.Mul(more, c) {
				t.Errorf("Mul by %d: more for %d than for %d", c, less, more)
			}
		}
	}
}

// TestClampAgain: P1.5, limits that are the wrong way round among them.
func TestClampAgain(t *testing.T) {
	for _, p := range pairs() {
		low, high := p[0], p[1]
		for _, n := range edges {
			once := fixed.Clamp(n, low, high)
			same(t, named("Clamp again", n, low, high), fixed.Clamp(once, low, high), once)
		}
	}
}
