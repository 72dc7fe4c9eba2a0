package rng_test

import (
	"math"
	"math/big"
	"math/rand"
	"testing"

	"hindcast/rng"
)

const (
	stride  = 0x9e3779b97f4a7c15
	most    = 2147483648 // a greater n of Below counts as this one
	highest = math.MaxUint64
)

// beyond is the least count whose product with the stride is beyond 64 bits.
const beyond = 2

// back is the number whose sum with the stride is 0 modulo 2^64: the next source's mix is 0, and no number of Below is lower.
const back = highest - stride + 1

// numbers are sources, seeds, counts, and arguments of Mix: both limits, each bit alone and each bit missing, those beside which the sum with the stride, or the product, goes beyond 64 bits, and any, the same ones in each run.
func numbers() []uint64 {
	l := []uint64{0, 1, 2, 3, 5, 1234567, stride - 1, stride, stride + 1, back - 1, back, back + 1, beyond, highest - 1, highest}
	for i := range 64 {
		l = append(l, 1<<i, ^uint64(1<<i))
	}
	r := rand.New(rand.NewSource(1))
	for range 60 {
		l = append(l, r.Uint64(), uint64(r.Intn(1000)))
	}
	return l
}

// bounds are arguments of Below that are above 0: both limits, and those beside a power of two.
func bounds() []int {
	l := []int{1, 3, 6, 7, 10, 100, 1000000, most - 1, most, most + 1, 3000000000, math.MaxInt - 1, math.MaxInt}
	for i := range 62 {
		l = append(l, 1<<(i+1), 1<<(i+1)-1, 1<<(i+1)+1)
	}
	return l
}

func number(n uint64) *big.Int { return new(big.Int).SetUint64(n) }

// low is n modulo 2^64.
func low(n *big.Int) uint64 {
	return new(big.Int).And(n, number(highest)).Uint64()
}

// times and plus are a product and a sum, modulo 2^64, that no integer's width has a part in.
func times(a, b uint64) uint64 { return low(new(big.Int).Mul(number(a), number(b))) }

func plus(a, b uint64) uint64 { return low(new(big.Int).Add(number(a), number(b))) }

func shifted(n uint64, by uint) uint64 { return low(new(big.Int).Rsh(number(n), by)) }

// mixed is the chapter's definition of a mix.
func mixed(z uint64) uint64 {
	z = times(z^shifted(z, 30), 0xbf58476d1ce4e5b9)
	z = times(z^shifted(z, 27), 0x94d049bb133111eb)
	return z ^ shifted(z, 31)
}

// skipped is S of P5.1's Skip.
func skipped(s, n uint64) uint64 { return plus(s, times(n, stride)) }

// below is P5.2's number, for an n above 0.
func below(s uint64, n int) int {
	upper := shifted(mixed(plus(s, stride)), 32)
	product := new(big.Int).Mul(number(upper), number(uint64(min(n, most))))
	return int(product.Rsh(product, 32).Int64())
}

// unmixed is the only number whose mix is n: each of a mix's three parts is taken back, the last one first.
func unmixed(n uint64) uint64 {
	n = unshifted(n, 31)
	n = unshifted(times(n, inverse(0x94d049bb133111eb)), 27)
	return unshifted(times(n, inverse(0xbf58476d1ce4e5b9)), 30)
}

// unshifted is the z of which n is z xored with z shifted right by that many bits.
func unshifted(n uint64, by uint) uint64 {
	z := n
	for range 64 / by {
		z = n ^ z>>by
	}
	return z
}

// inverse is what an odd number is multiplied by to yield 1 modulo 2^64.
func inverse(n uint64) uint64 {
	all := new(big.Int).Lsh(big.NewInt(1), 64)
	return new(big.Int).ModInverse(number(n), all).Uint64()
}

func same(t *testing.T, what string, got, want uint64) {
	t.Helper()
	if got != want {
		t.Errorf("%s: %d, not %d", what, got, want)
	}
}

// belowTo holds Below's two results.
func belowTo(t *testing.T, s uint64, n, want int, next uint64) {
	t.Helper()
	if k, to := (rng.Source{S: s}).Below(n); k != want || to.S != next {
		t.Errorf("Below(%d) of the source %d: %d, %d, not %d, %d", n, s, k, to.S, want, next)
	}
}

// TestExamples holds the chapter's table.
func TestExamples(t *testing.T) {
	n, _ := rng.Source{}.Next()
	same(t, "Next of 0", n, 16294208416658607535)
	n, s := rng.Source{S: 1234567}.Next()
	same(t, "Next of 1234567", n, 6457827717110365317)
	n, _ = s.Next()
	same(t, "the second Next of 1234567", n, 3203168211198807973)
	belowTo(t, 0, 6, 5, stride)
	belowTo(t, 0, 0, 0, 0)
	belowTo(t, 1234567, 0, 0, 1234567)
	belowTo(t, 0, 1, 0, stride)
	same(t, "Mix(0)", rng.Mix(0), 0)
}

// TestKnown: the numbers that splitmix64 is known to tell from the seed 1234567.
func TestKnown(t *testing.T) {
	s := rng.Source{S: 1234567}
	for i, want := range []uint64{6457827717110365317, 3203168211198807973, 9817491932198370423, 4593380528125082431, 16408922859458223821} {
		var n uint64
		n, s = s.Next()
		same(t, "Next", n, want)
		same(t, "At", rng.At(1234567, uint64(i)), want)
	}
}

// TestMix: P5.1: Mix of 0, of the greatest number, and of others is the chapter's.
func TestMix(t *testing.T) {
	same(t, "Mix(0)", rng.Mix(0), 0)
	same(t, "Mix of the greatest number", rng.Mix(highest), mixed(highest))
	same(t, "Mix of the stride", rng.Mix(stride), 16294208416658607535)
	for _, n := range numbers() {
		same(t, "Mix", rng.Mix(n), mixed(n))
	}
}

// TestNext: P5.1: the mix of the sum, and the source of the sum, also where the sum is beyond 64 bits.
func TestNext(t *testing.T) {
	for _, s := range numbers() {
		n, next := rng.Source{S: s}.Next()
		same(t, "the number of Next", n, mixed(plus(s, stride)))
		same(t, "the source of Next", next.S, plus(s, stride))
	}
}

// TestNextAround: P5.1: the source just beyond which the sum is beyond 64 bits, and the one that is 0 by then.
func TestNextAround(t *testing.T) {
	n, s := rng.Source{S: back}.Next()
	same(t, "the number behind the sum 2^64", n, 0)
	same(t, "the source behind the sum 2^64", s.S, 0)
	_, s = rng.Source{S: back - 1}.Next()
	same(t, "the source behind the sum 2^64 - 1", s.S, highest)
	_, s = rng.Source{S: highest}.Next()
	same(t, "the source behind the greatest one", s.S, stride-1)
}

// TestSkip: P5.1: Skip of 0, of 1, of counts whose product with the stride is beyond 64 bits, and of the greatest one.
func TestSkip(t *testing.T) {
	for _, s := range numbers() {
		from := rng.Source{S: s}
		same(t, "Skip(0)", from.Skip(0).S, s)
		same(t, "Skip(1)", from.Skip(1).S, plus(s, stride))
		same(t, "Skip(2)", from.Skip(beyond).S, plus(plus(s, stride), stride))
		same(t, "Skip of the greatest count", from.Skip(highest).S, plus(s, back))
		for _, n := range numbers() {
			same(t, "Skip", from.Skip(n).S, skipped(s, n))
		}
	}
}

// TestAt: P5.1: the number that Next returns for Skip, also of 0 and of great n.
func TestAt(t *testing.T) {
	same(t, "At(0, 0)", rng.At(0, 0), 16294208416658607535)
	for _, seed := range numbers() {
		first, _ := rng.Source{S: seed}.Next()
		same(t, "At of 0", rng.At(seed, 0), first)
		same(t, "At of the greatest n", rng.At(seed, highest), mixed(seed))
		for _, n := range numbers() {
			next, _ := rng.Source{S: seed}.Skip(n).Next()
			same(t, "At, and Next of Skip", rng.At(seed, n), next)
			same(t, "At", rng.At(seed, n), mixed(plus(skipped(seed, n), stride)))
		}
	}
}

// TestBelow: P5.2: 1, 2147483648, and numbers between them and above.
func TestBelow(t *testing.T) {
	for _, s := range numbers() {
		for _, n := range bounds() {
			belowTo(t, s, n, below(s, n), plus(s, stride))
		}
	}
}

// TestBelowOne: P5.2: 1 leaves 0 alone, but the source goes on, as it doesn't for 0.
func TestBelowOne(t *testing.T) {
	for _, s := range numbers() {
		belowTo(t, s, 1, 0, plus(s, stride))
	}
}

// TestBelowMost: P5.2: what is above 2147483648 counts as that, of which the number is the highest 31 bits.
func TestBelowMost(t *testing.T) {
	for _, s := range numbers() {
		next := plus(s, stride)
		for _, n := range []int{most, most + 1, 2 * most, 2*most + 1, math.MaxInt} {
			belowTo(t, s, n, int(mixed(next)>>33), next)
		}
	}
}

// TestBelowNone: P5.2: a number below 1 leads to 0, and the source is unchanged.
func TestBelowNone(t *testing.T) {
	for _, s := range numbers() {
		for _, n := range []int{0, -1, -2, -6, math.MinInt32, -most - 1, -2 * most, math.MinInt + 1, math.MinInt} {
			belowTo(t, s, n, 0, s)
		}
	}
}

// TestManyNexts: P5.3: after n calls of Next the source is Skip(n), and the numbers were At(seed, 0) up to At(seed, n - 1).
func TestManyNexts(t *testing.T) {
	for _, seed := range numbers() {
		s := rng.Source{S: seed}
		for n := range uint64(100) {
			same(t, "the source, and Skip", s.S, rng.Source{S: seed}.Skip(n).S)
			var next uint64
			next, s = s.Next()
			same(t, "Next, and At", next, rng.At(seed, n))
		}
	}
}

// TestSkipTwice: P5.3: Skip of a Skip is Skip of the sum, also where the sum is beyond 64 bits.
func TestSkipTwice(t *testing.T) {
	for _, seed := range []uint64{0, 1234567, back, highest} {
		s := rng.Source{S: seed}
		for _, a := range numbers() {
			for _, b := range numbers() {
				same(t, "Skip of a Skip", s.Skip(a).Skip(b).S, s.Skip(a+b).S)
			}
		}
	}
}

// TestMixesDiffer: P5.3: a mix can be taken back, so that no two numbers share one.
func TestMixesDiffer(t *testing.T) {
	for _, n := range numbers() {
		same(t, "the number of a mix", unmixed(rng.Mix(n)), n)
		same(t, "the mix of the number of a mix", rng.Mix(unmixed(n)), n)
	}
	of := map[uint64]uint64{}
	for n := range uint64(1 << 16) {
		for _, one := range []uint64{n, n << 16, n << 32, n << 48} {
			m := rng.Mix(one)
			if other, ok := of[m]; ok && other != one {
				t.Fatalf("%d and %d have the mix %d", other, one, m)
			}
			of[m] = one
		}
	}
}

// TestBelowWithin: P5.4: from 0 on and below n, also next to the least and the greatest mixes.
func TestBelowWithin(t *testing.T) {
	l := numbers()
	for _, m := range []uint64{0, 1, 1<<32 - 1, 1 << 32, 1<<63 - 1, 1 << 63, highest - 1, highest} {
		l = append(l, unmixed(m)-stride)
	}
	for _, s := range l {
		for _, n := range bounds() {
			if k, _ := (rng.Source{S: s}).Below(n); k < 0 || k >= n {
				t.Errorf("Below(%d) of the source %d: %d", n, s, k)
			}
		}
	}
}

// TestBelowEnds: P5.4: the least mix leads to 0, and the greatest one to n - 1, which is the highest that may be.
func TestBelowEnds(t *testing.T) {
	for _, n := range bounds() {
		belowTo(t, back, n, 0, 0)
		belowTo(t, unmixed(highest)-stride, n, min(n, most)-1, unmixed(highest))
	}
}

// TestBelowAll: P5.4: in a run of numbers below a small n, each one comes.
func TestBelowAll(t *testing.T) {
	for n := 1; n <= 20; n++ {
		came := make([]int, n)
		s := rng.Source{S: uint64(n)}
		for range 100 * n {
			var k int
			k, s = s.Below(n)
			came[k]++
		}
		for k, times := range came {
			if times == 0 {
				t.Errorf("Below(%d) never returned %d", n, k)
			}
		}
	}
}

// TestAgain: a source is a value: what its methods return hangs on it and their arguments alone, and it stays as it is.
func TestAgain(t *testing.T) {
	for _, seed := range numbers() {
		s := rng.Source{S: seed}
		first, _ := s.Next()
		s.Skip(9)
		k, _ := s.Below(6)
		again, _ := s.Next()
		same(t, "Next again", again, first)
		belowTo(t, seed, 6, k, plus(seed, stride))
		same(t, "the source", s.S, seed)
	}
}
