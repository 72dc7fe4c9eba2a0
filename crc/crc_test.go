package crc_test

import (
	"encoding/binary"
	"fmt"
	"hash/crc32"
	"math"
	"math/rand"
	"slices"
	"strings"
	"testing"

	"hindcast/crc"
)

const (
	most    = 1048576    // bytes that Join takes for its second part
	behind  = 0x2144df1c // the checksum of a string and its own checksum (P3.5)
	allOnes = math.MaxUint32
)

// starts are numbers to go on from: both limits, each bit alone, and any.
func starts() []uint32 {
	l := []uint32{0, 1, 0x7fffffff, 0x80000000, allOnes - 1, allOnes, 0xedb88320, ^uint32(0xedb88320), behind}
	for i := range 32 {
		l = append(l, 1<<i, ^uint32(1<<i))
	}
	r := rand.New(rand.NewSource(1))
	for range 50 {
		l = append(l, r.Uint32())
	}
	return l
}

// texts are the empty string, every byte alone, short ones of one byte repeated, and others of any bytes, the same ones in each run.
func texts() []string {
	l := []string{"", "a", "ab", "abc", "1234", "56789", "123456789"}
	for b := range 256 {
		l = append(l, string([]byte{byte(b)}))
	}
	for _, n := range []int{2, 3, 4, 5, 8, 16, 33} {
		l = append(l, zeros(n), strings.Repeat("\xff", n))
	}
	r := rand.New(rand.NewSource(2))
	for n := range 100 {
		l = append(l, anyBytes(r, n))
	}
	return append(l, anyBytes(r, 4096), anyBytes(r, 65537))
}

// shortTexts are those of texts that may be gone through often.
func shortTexts() []string {
	return slices.DeleteFunc(texts(), func(s string) bool { return len(s) > 256 })
}

func anyBytes(r *rand.Rand, n int) string {
	b := make([]byte, n)
	r.Read(b)
	return string(b)
}

func zeros(n int) string { return strings.Repeat("\x00", n) }

// byBits is the chapter's steps by each bit of s, from c on, with nothing inverted.
func byBits(c uint32, s string) uint32 {
	for _, b := range []byte(s) {
		for i := range 8 {
			out := c & 1
			c >>= 1
			if out != uint32(b>>i)&1 {
				c ^= 0xedb88320
			}
		}
	}
	return c
}

// lowestFirst is the four bytes of c.
func lowestFirst(c uint32) string {
	return string(binary.LittleEndian.AppendUint32(nil, c))
}

func same(t *testing.T, what string, got, want uint32) {
	t.Helper()
	if got != want {
		t.Errorf("%s: %#x, not %#x", what, got, want)
	}
}

// TestExamples holds the chapter's table.
func TestExamples(t *testing.T) {
	same(t, "Sum of the empty string", crc.Sum(""), 0)
	same(t, "Sum of 123456789", crc.Sum("123456789"), 3421780262)
	same(t, "Sum of a", crc.Sum("a"), 3904355907)
	same(t, "Sum of a byte 0", crc.Sum("\x00"), 3523407757)
	same(t, "Update", crc.Update(crc.Sum("1234"), "56789"), 3421780262)
	same(t, "Join", crc.Join(crc.Sum("1234"), crc.Sum("56789"), 5), 3421780262)
	same(t, "Join(7, 9, -1)", crc.Join(7, 9, -1), 14)
}

// TestSum: P3.1, by the definition's bits, and by the library's checksum of the same name.
func TestSum(t *testing.T) {
	for _, s := range texts() {
		what := fmt.Sprintf("Sum of %d bytes %.20q", len(s), s)
		same(t, what, crc.Sum(s), ^byBits(allOnes, s))
		same(t, what, crc.Sum(s), crc32.ChecksumIEEE([]byte(s)))
	}
}

// TestUpdate: P3.1: from any number on, whether it is a checksum or not.
func TestUpdate(t *testing.T) {
	for _, c := range starts() {
		for _, s := range shortTexts() {
			same(t, fmt.Sprintf("Update(%#x, %.20q)", c, s), crc.Update(c, s), ^byBits(^c, s))
		}
		same(t, "Update by the empty string", crc.Update(c, ""), c)
	}
	for _, s := range texts() {
		same(t, "Update from 0", crc.Update(0, s), crc.Sum(s))
		same(t, "Update from all ones", crc.Update(allOnes, s), ^byBits(0, s))
	}
}

// TestUpdateOfEachByte: P3.1: every byte, from numbers with every lowest byte.
func TestUpdateOfEachByte(t *testing.T) {
	for c := range uint32(256) {
		for b := range 256 {
			s := string([]byte{byte(b)})
			same(t, "of a byte", crc.Update(c<<24|c, s), ^byBits(^(c<<24|c), s))
		}
	}
}

// joined is P3.2 word by word, for an n that needs no bounding.
func joined(a, b uint32, n int) uint32 {
	return ^byBits(^a, zeros(n)) ^ b ^ ^byBits(allOnes, zeros(n))
}

// TestJoin: P3.2: any two numbers, be they checksums or not.
func TestJoin(t *testing.T) {
	l := starts()
	for i, a := range l {
		for _, b := range []uint32{0, 1, allOnes, l[len(l)-1-i]} {
			for _, n := range []int{0, 1, 2, 3, 4, 5, 31, 64} {
				same(t, fmt.Sprintf("Join(%#x, %#x, %d)", a, b, n), crc.Join(a, b, n), joined(a, b, n))
			}
		}
	}
}

// TestJoinBounds: P3.2: an n that is below 0 counts as 0, one above the most as the most, and those beside the limits as themselves.
func TestJoinBounds(t *testing.T) {
	a, b := crc.Sum("1234"), crc.Sum("56789")
	for _, n := range []int{-1, -2, -most, -most - 1, math.MinInt32, math.MinInt} {
		same(t, fmt.Sprintf("Join with n %d", n), crc.Join(a, b, n), a^b)
	}
	same(t, "Join with n 0", crc.Join(a, b, 0), a^b)
	for _, n := range []int{1, most - 1, most} {
		same(t, fmt.Sprintf("Join with n %d", n), crc.Join(a, b, n), joined(a, b, n))
	}
	for _, n := range []int{most + 1, most + 2, 2 * most, math.MaxInt32, math.MaxInt} {
		same(t, fmt.Sprintf("Join with n %d", n), crc.Join(a, b, n), joined(a, b, most))
	}
}

// checkParts holds P3.3 for two strings.
func checkParts(t *testing.T, a, b string) {
	t.Helper()
	what := fmt.Sprintf("%d bytes and %d bytes", len(a), len(b))
	whole := ^byBits(allOnes, a+b)
	same(t, "Sum of "+what, crc.Sum(a+b), whole)
	same(t, "Update by "+what, crc.Update(crc.Sum(a), b), whole)
	same(t, "Join of "+what, crc.Join(crc.Sum(a), crc.Sum(b), len(b)), whole)
}

// TestParts: P3.3, with the empty string as either part, and as both.
func TestParts(t *testing.T) {
	same(t, "Sum of the empty string", crc.Sum(""), 0)
	l := texts()
	for i, s := range l {
		checkParts(t, s, "")
		checkParts(t, "", s)
		checkParts(t, s, l[len(l)-1-i])
	}
	r := rand.New(rand.NewSource(3))
	for range 1000 {
		checkParts(t, anyBytes(r, r.Intn(70)), anyBytes(r, r.Intn(70)))
	}
}

// TestEachCut: P3.3: one string, cut in two everywhere.
func TestEachCut(t *testing.T) {
	s := anyBytes(rand.New(rand.NewSource(4)), 200)
	for cut := range len(s) + 1 {
		checkParts(t, s[:cut], s[cut:])
	}
}

// TestLongestPart: P3.3, with a second part as long as Join takes, and one byte shorter.
func TestLongestPart(t *testing.T) {
	long := anyBytes(rand.New(rand.NewSource(5)), most)
	checkParts(t, "a", long)
	checkParts(t, "a", long[1:])
}

// inverted is s with the bits of mask inverted, from bit at on: the lowest one of a byte is the first. Those beyond the end are not there.
func inverted(s string, at int, mask uint32) string {
	l := []byte(s)
	for i := range 32 {
		if to := at + i; mask>>i&1 == 1 && to < 8*len(l) {
			l[to/8] ^= 1 << (to % 8)
		}
	}
	return string(l)
}

func differs(t *testing.T, s string, at int, mask uint32) {
	t.Helper()
	if other := inverted(s, at, mask); other != s && crc.Sum(other) == crc.Sum(s) {
		t.Errorf("Sum of %d bytes is blind to %032b from bit %d on", len(s), mask, at)
	}
}

// TestOneBit: P3.4: each bit of strings of many lengths.
func TestOneBit(t *testing.T) {
	for _, s := range shortTexts() {
		for at := range 8 * len(s) {
			differs(t, s, at, 1)
		}
	}
}

// TestPairsOfBits: P3.4: each two bits within 32, at each place.
func TestPairsOfBits(t *testing.T) {
	s := anyBytes(rand.New(rand.NewSource(6)), 24)
	for at := range 8 * len(s) {
		for i := range 31 {
			differs(t, s, at, 1|1<<(i+1))
		}
	}
}

// TestWithin32Bits: P3.4: many differences at every place from the beginning to the end, all 32 bits and the polynomial's own among them, in strings short and long.
func TestWithin32Bits(t *testing.T) {
	r := rand.New(rand.NewSource(7))
	for _, n := range []int{1, 2, 4, 5, 8, 64} {
		s := anyBytes(r, n)
		for at := range 8 * n {
			for _, mask := range masks(r) {
				differs(t, s, at, mask)
			}
		}
	}
	long := anyBytes(r, 4096)
	for _, at := range []int{0, 1, 7, 8, 31, 4 * 4096, 4*4096 + 3, 8*4096 - 33, 8*4096 - 32, 8*4096 - 31, 8*4096 - 1} {
		for _, mask := range masks(r) {
			differs(t, long, at, mask)
		}
	}
}

// masks are differences within 32 bits: each length of ones, and any.
func masks(r *rand.Rand) []uint32 {
	l := []uint32{0xedb88320, 0x04c11db7, 0x80000001}
	for i := range 32 {
		l = append(l, allOnes>>i)
	}
	for range 20 {
		l = append(l, r.Uint32(), r.Uint32()>>r.Intn(32))
	}
	return l
}

// TestAllOfTwoBytes: P3.4: two bytes are within 32 bits, so that no two of their strings share a checksum, whatever is around them.
func TestAllOfTwoBytes(t *testing.T) {
	for _, around := range [][2]string{{"", ""}, {"1234", ""}, {"", "56789"}, {"1234", "56789"}} {
		seen := map[uint32]bool{}
		for n := range 1 << 16 {
			c := crc.Sum(around[0] + string([]byte{byte(n), byte(n >> 8)}) + around[1])
			if seen[c] {
				t.Fatalf("checksum %#x twice, between %q", c, around)
			}
			seen[c] = true
		}
	}
}

// TestOwnChecksumBehind: P3.5, and that it is so with the lowest byte first alone.
func TestOwnChecksumBehind(t *testing.T) {
	same(t, "behind", behind, 558161692)
	for _, s := range texts() {
		own := lowestFirst(crc.Sum(s))
		same(t, "with its own checksum", crc.Sum(s+own), behind)
		same(t, "with its own checksum, by Update", crc.Update(crc.Sum(s), own), behind)
		same(t, "with its own checksum, by Join", crc.Join(crc.Sum(s), crc.Sum(own), 4), behind)
		differs(t, s+own, 8*len(s), 1)
	}
	own := lowestFirst(crc.Sum("a"))
	if crc.Sum("a"+string([]byte{own[3], own[2], own[1], own[0]})) == behind {
		t.Errorf("the order of the checksum's bytes counts for nothing")
	}
}
