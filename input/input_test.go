package input_test

import (
	"encoding/binary"
	"fmt"
	"math"
	"math/rand"
	"slices"
	"strings"
	"testing"

	"hindcast/api"
	"hindcast/input"
)

const (
	most     = 4096 // inputs of a list that is read
	nineOnes = "\xff\xff\xff\xff\xff\xff\xff\xff\xff"
	tenTops  = "\x80\x80\x80\x80\x80\x80\x80\x80\x80\x80"
)

// mosts are arguments of Unpack: both limits, beside them, and far beyond them.
var mosts = []int{math.MinInt, -1, 0, 1, 2, 3, 4, most - 1, most, most + 1, math.MaxInt}

// bound is what P6.3 takes a most for.
func bound(n int) int {
	switch {
	case n < 0:
		return 0
	case n > most:
		return most
	}
	return n
}

// repeated is n times the input i.
func repeated(n int, i api.Input) []api.Input { return slices.Repeat([]api.Input{i}, n) }

// changing is n inputs, each unlike the one before it.
func changing(n int) []api.Input {
	l := make([]api.Input, n)
	for k := range l {
		l[k] = api.Input(k % 64)
	}
	return l
}

// anyList has runs of all lengths, or none, and is at most n long.
func anyList(r *rand.Rand, n int) []api.Input {
	l := []api.Input{}
	for range r.Intn(20) {
		l = append(l, repeated(1+r.Intn(1<<r.Intn(9)), api.Input(r.Intn(64)))...)
	}
	return l[:min(len(l), n)]
}

// lists are of valid inputs: none, each alone, those whose lengths, or numbers of runs, are beside those at which a var gets one byte more, and many others, the same ones in each run.
func lists() [][]api.Input {
	l := [][]api.Input{nil, {}, {5, 5, 5, 0}, {5, 5, 5, 0, 5}, {0, 0, 1}, {0, 1, 1}}
	for i := range 64 {
		l = append(l, []api.Input{api.Input(i)})
	}
	for _, n := range []int{2, 3, 126, 127, 128, 129, 255, 256, 257, most - 1, most} {
		l = append(l, repeated(n, 0), repeated(n, 63), changing(n))
		l = append(l, append(changing(n-1), repeated(1, 9)...), append(repeated(n-1, 9), 0))
	}
	for code := range 3 * 3 * 3 * 3 * 3 {
		short := make([]api.Input, 5)
		for k := range short {
			short[k] = api.Input(31 * (code % 3))
			code /= 3
		}
		l = append(l, short)
	}
	r := rand.New(rand.NewSource(1))
	for range 300 {
		l = append(l, anyList(r, most))
	}
	return l
}

// encoding is the chapter's definition of the encoding of a list; what binary calls a uvarint is the var, where nothing is longer than it must be.
func encoding(l []api.Input) string {
	var runs []byte
	n := uint64(0)
	for begin := 0; begin < len(l); n++ {
		end := begin
		for end < len(l) && l[end] == l[begin] {
			end++
		}
		runs = binary.AppendUvarint(runs, uint64(end-begin))
		runs = append(runs, byte(l[begin]))
		begin = end
	}
	return string(binary.AppendUvarint(nil, n)) + string(runs)
}

// varOf is a var at the beginning of s, and the reader's error (P2.3): binary reads a longer one, too, but never writes one.
func varOf(s string) (n uint64, rest string, e api.Errno) {
	n, used := binary.Uvarint([]byte(s))
	switch {
	case used == 0 && len(s) < 10:
		return 0, "", api.ErrTorn
	case used <= 0: // binary wants an eleventh byte to see that ten go on
		return 0, "", api.ErrLong
	case used != len(binary.AppendUvarint(nil, n)):
		return 0, "", api.ErrForm
	}
	return n, s[used:], api.OK
}

// decoded is P6.3 word by word.
func decoded(s string, n int) ([]api.Input, api.Errno) {
	n = bound(n)
	runs, s, e := varOf(s)
	if e != api.OK {
		return nil, e
	}
	if runs > uint64(n) {
		return nil, api.ErrLong
	}
	var l []api.Input
	for run := range runs {
		length, rest, e := varOf(s)
		if e != api.OK {
			return nil, e
		}
		if rest == "" {
			return nil, api.ErrTorn
		}
		i := api.Input(rest[0])
		if length == 0 || i > 63 || run > 0 && i == l[len(l)-1] {
			return nil, api.ErrForm
		}
		if length > uint64(n) || len(l)+int(length) > n {
			return nil, api.ErrLong
		}
		l = append(l, repeated(int(length), i)...)
		s = rest[1:]
	}
	if s != "" {
		return nil, api.ErrForm
	}
	return l, api.OK
}

func same[T comparable](t *testing.T, what string, got, want T) {
	t.Helper()
	if got != want {
		t.Errorf("%s: %v, not %v", what, got, want)
	}
}

// packTo and unpackTo hold the results of Pack and Unpack.
func packTo(t *testing.T, l []api.Input, want string) {
	t.Helper()
	if s := input.Pack(l); s != want {
		t.Errorf("Pack of %d inputs %.20v: %d bytes % .40x, not %d bytes % .40x", len(l), l[:min(len(l), 20)], len(s), s, len(want), want)
	}
}

func unpackTo(t *testing.T, s string, n int, want []api.Input, e api.Errno) {
	t.Helper()
	if l, got := input.Unpack(s, n); !slices.Equal(l, want) || got != e {
		t.Errorf("Unpack of %d bytes % .40x with %d: %d inputs %v, %d, not %d inputs %v, %d", len(s), s, n, len(l), l[:min(len(l), 20)], got, len(want), want[:min(len(want), 20)], e)
	}
}

// TestExamples holds the chapter's table.
func TestExamples(t *testing.T) {
	for i, want := range map[api.Input][2]int32{1: {-1, 0}, 3: {0, 0}, 6: {1, -1}, 9: {-1, 1}} {
		across, down := input.Dir(i)
		same(t, fmt.Sprintf("Dir of %d", i), [2]int32{across, down}, want)
	}
	packTo(t, []api.Input{5, 5, 5, 0}, "\x02\x03\x05\x01\x00")
	packTo(t, []api.Input{}, "\x00")
	packTo(t, []api.Input{64}, "")
	unpackTo(t, "\x02\x03\x05\x01\x00", 4, []api.Input{5, 5, 5, 0}, api.OK)
	unpackTo(t, "\x02\x03\x05\x01\x00", 3, nil, api.ErrLong)
	for _, s := range []string{"\x02\x01\x05\x01\x05", "\x01\x00\x05", "\x01\x01\x40", "\x00\x00"} {
		unpackTo(t, s, 9, nil, api.ErrForm)
	}
	for _, s := range []string{"", "\x01", "\x01\x01"} {
		unpackTo(t, s, 9, nil, api.ErrTorn)
	}
	same(t, "Predict of 1, 2", input.Predict([]api.Input{1, 2}), 2)
	same(t, "Predict of the empty list", input.Predict([]api.Input{}), 0)
}

// TestLegal: P6.1, for every input.
func TestLegal(t *testing.T) {
	for i := range 256 {
		same(t, fmt.Sprintf("Legal of %d", i), input.Legal(api.Input(i)), i <= 63)
	}
}

// TestDir: P6.1, for every input: the table has the four directions' sixteen combinations, and other bits have no part in them.
func TestDir(t *testing.T) {
	table := [16][2]int32{
		{0, 0}, {-1, 0}, {1, 0}, {0, 0}, // none, left, right, both
		{0, -1}, {-1, -1}, {1, -1}, {0, -1}, // the same with up
		{0, 1}, {-1, 1}, {1, 1}, {0, 1}, // with down
		{0, 0}, {-1, 0}, {1, 0}, {0, 0}, // with up and down
	}
	for i := range 256 {
		across, down := input.Dir(api.Input(i))
		same(t, fmt.Sprintf("Dir of %d", i), [2]int32{across, down}, table[i%16])
	}
}

// TestFireAndDash: P6.1, for every input: bits from number 6 on have no part in them, either.
func TestFireAndDash(t *testing.T) {
	for i := range 256 {
		digits := fmt.Sprintf("%08b", i) // the highest bit first
		same(t, fmt.Sprintf("Fire of %d", i), input.Fire(api.Input(i)), digits[7-4] == '1')
		same(t, fmt.Sprintf("Dash of %d", i), input.Dash(api.Input(i)), digits[7-5] == '1')
	}
}

// TestPack: P6.2: lists of no run, of one, and of many; their numbers have vars of one byte and of more.
func TestPack(t *testing.T) {
	packTo(t, nil, "\x00")
	packTo(t, repeated(127, 7), "\x01\x7f\x07")
	packTo(t, repeated(128, 7), "\x01\x80\x01\x07")
	packTo(t, append(repeated(300, 63), 0, 0), "\x02\xac\x02\x3f\x02\x00")
	packTo(t, repeated(1<<14, 1), "\x01\x80\x80\x01\x01")
	packTo(t, []api.Input{1, 2, 1, 1, 2}, "\x04\x01\x01\x01\x02\x02\x01\x01\x02")
	packTo(t, append(changing(127), 9), "\x80\x01"+encoding(append(changing(127), 9))[2:])
	for _, l := range lists() {
		packTo(t, l, encoding(l))
	}
}

// TestPackLong: P6.2: no list is too long to be packed, though Unpack reads 4096 inputs at the most.
func TestPackLong(t *testing.T) {
	for _, n := range []int{most + 1, 1 << 14, 1<<21 - 1, 1 << 21} {
		for _, l := range [][]api.Input{repeated(n, 33), changing(n), append(repeated(n, 0), changing(n)...)} {
			s := encoding(l)
			packTo(t, l, s)
			unpackTo(t, s, math.MaxInt, nil, api.ErrLong)
		}
	}
}

// TestPackNotValid: P6.2: an input that is not valid, anywhere: alone, within a run, and as a run of its own.
func TestPackNotValid(t *testing.T) {
	for _, bad := range []api.Input{64, 65, 127, 128, 255} {
		packTo(t, []api.Input{bad}, "")
		packTo(t, []api.Input{bad, bad}, "")
		for _, l := range [][]api.Input{{1}, {1, 1}, {1, 2, 3}, {1, 1, 2, 2, 2, bad &^ 192}, repeated(300, 5), changing(300)} {
			for at := range len(l) + 1 {
				packTo(t, slices.Insert(slices.Clone(l), at, bad), "")
			}
			for at := range l {
				spoilt := slices.Clone(l)
				spoilt[at] = bad
				packTo(t, spoilt, "")
			}
		}
	}
}

// TestUnpackErrors: P6.3: each error, and which of several is the first one.
func TestUnpackErrors(t *testing.T) {
	for _, c := range []struct {
		what, s string
		most    int
		e       api.Errno
	}{
		{"a number of runs that goes on", "\x80", 9, api.ErrTorn},
		{"a number of runs with a zero behind", "\x81\x00\x01\x05", 9, api.ErrForm},
		{"a number of runs with nothing but zeros", "\x80\x00", 9, api.ErrForm},
		{"a number of runs of ten bytes that go on", tenTops, 9, api.ErrLong},
		{"a number of runs above 2^64 - 1", nineOnes + "\x02", 9, api.ErrLong},
		{"the greatest number of runs", nineOnes + "\x01", 9, api.ErrLong},
		{"2^32 runs", "\x80\x80\x80\x80\x10", 9, api.ErrLong},
		{"2^63 runs", "\x80\x80\x80\x80\x80\x80\x80\x80\x80\x01", math.MaxInt, api.ErrLong},
		{"more runs than most, and none there", "\x0a", 9, api.ErrLong},
		{"more runs than most, the first one not valid", "\x0a\x00\x40", 9, api.ErrLong},
		{"as many runs as most, and none there", "\x09", 9, api.ErrTorn},
		{"a run, and a most of 0", "\x01\x01\x05", 0, api.ErrLong},
		{"a run, and a most below 0", "\x01\x01\x05", -1, api.ErrLong},
		{"a run that is missing, and a most of 0", "\x01", 0, api.ErrLong},
		{"bytes behind no run, and a most of 0", "\x00\x01", 0, api.ErrForm},
		{"4097 runs", "\x81\x20", math.MaxInt, api.ErrLong},
		{"4096 runs, and none there", "\x80\x20", math.MaxInt, api.ErrTorn},

		{"a run's number that goes on", "\x01\x80", 9, api.ErrTorn},
		{"a run's number with a zero behind, and no byte", "\x01\x81\x00", 9, api.ErrForm},
		{"a run's number with a zero behind", "\x01\x81\x00\x05", 9, api.ErrForm},
		{"a run's number of ten bytes that go on", "\x01" + tenTops + "\x05", 9, api.ErrLong},
		{"a run's number above 2^64 - 1", "\x01" + nineOnes + "\x02\x05", 9, api.ErrLong},
		{"a run's number above 2^64 - 1, not valid", "\x01" + nineOnes + "\x02\x40", 9, api.ErrLong},
		{"a run's number with a zero behind, and most inputs before it", "\x02\x09\x05\x81\x00\x06", 9, api.ErrForm},
		{"a number of 0, and no byte", "\x01\x00", 9, api.ErrTorn},
		{"a number above most, and no byte", "\x01\x0a", 9, api.ErrTorn},
		{"the greatest number, and no byte", "\x01" + nineOnes + "\x01", 9, api.ErrTorn},
		{"a number above what is left of most, and no byte", "\x02\x05\x05\x05", 9, api.ErrTorn},

		{"a number of 0 as the second one", "\x02\x01\x05\x00\x06", 9, api.ErrForm},
		{"a number of 0, not valid", "\x01\x00\x40", 9, api.ErrForm},
		{"a number of 0, and more runs missing", "\x02\x00\x05", 9, api.ErrForm},
		{"not valid, with 128", "\x01\x01\x80", 9, api.ErrForm},
		{"not valid, with 255", "\x01\x01\xff", 9, api.ErrForm},
		{"not valid, and more runs missing", "\x02\x01\x40", 9, api.ErrForm},
		{"not valid, as the second one", "\x02\x01\x05\x01\x40", 9, api.ErrForm},
		{"not valid, and above most", "\x01\x0a\x40", 9, api.ErrForm},
		{"not valid, and of the greatest number", "\x01" + nineOnes + "\x01\x40", 9, api.ErrForm},
		{"the preceding run's input 0", "\x02\x01\x00\x01\x00", 9, api.ErrForm},
		{"the preceding run's input, as the third one", "\x03\x01\x05\x01\x06\x01\x06", 9, api.ErrForm},
		{"the preceding run's input, and above most", "\x02\x05\x05\x05\x05", 9, api.ErrForm},
		{"the preceding run's input, and more runs missing", "\x03\x01\x05\x01\x05", 9, api.ErrForm},

		{"one run above most", "\x01\x0a\x05", 9, api.ErrLong},
		{"one run above most, and more runs missing", "\x02\x0a\x05", 9, api.ErrLong},
		{"one run above most, and bytes behind it", "\x01\x0a\x05\x00", 9, api.ErrLong},
		{"two runs above most", "\x02\x05\x05\x05\x06", 9, api.ErrLong},
		{"a second run above most, and a third one not valid", "\x03\x05\x05\x05\x06\x01\x40", 9, api.ErrLong},
		{"a run behind most inputs", "\x02\x09\x05\x01\x06", 9, api.ErrLong},
		{"4097 inputs", "\x01\x81\x20\x05", math.MaxInt, api.ErrLong},
		{"2^32 inputs", "\x01\x80\x80\x80\x80\x10\x05", 9, api.ErrLong},
		{"2^63 inputs", "\x01\x80\x80\x80\x80\x80\x80\x80\x80\x80\x01\x05", math.MaxInt, api.ErrLong},
		{"2^64 - 1 inputs", "\x01" + nineOnes + "\x01\x05", math.MaxInt, api.ErrLong},
		{"one input, and 2^64 - 1", "\x02\x01\x05" + nineOnes + "\x01\x06", math.MaxInt, api.ErrLong},

		{"a zero behind the last run", "\x01\x01\x05\x00", 9, api.ErrForm},
		{"a run behind the last run", "\x01\x01\x05\x01\x06", 9, api.ErrForm},
		{"a list behind a list", "\x01\x01\x05\x01\x01\x05", 9, api.ErrForm},
		{"a byte that goes on behind the last run", "\x01\x09\x05\x80", 9, api.ErrForm},
	} {
		if l, e := input.Unpack(c.s, c.most); len(l) != 0 || e != c.e {
			t.Errorf("Unpack of %s: %d inputs, %d, not %d", c.what, len(l), e, c.e)
		}
	}
}

// TestUnpack: P6.3: what is read without an error.
func TestUnpack(t *testing.T) {
	for _, c := range []struct {
		s    string
		most int
		l    []api.Input
	}{
		{"\x00", math.MinInt, nil},
		{"\x00", -1, nil},
		{"\x00", 0, nil},
		{"\x01\x01\x00", 1, []api.Input{0}}, // no run precedes it: 0 is not repeated
		{"\x01\x01\x3f", 1, []api.Input{63}},
		{"\x03\x01\x05\x01\x06\x01\x05", 3, []api.Input{5, 6, 5}},
		{"\x02\x08\x05\x01\x00", 9, append(repeated(8, 5), 0)},
		{"\x01\x80\x20\x05", most, repeated(most, 5)},
		{"\x01\x80\x20\x05", most + 1, repeated(most, 5)},
		{"\x01\x80\x20\x05", math.MaxInt, repeated(most, 5)},
		{"\x02\xff\x1f\x05\x01\x06", math.MaxInt, append(repeated(most-1, 5), 6)},
	} {
		unpackTo(t, c.s, c.most, c.l, api.OK)
	}
}

// checkUnpack holds P6.3 for any bytes, and P6.5 where they are an encoding.
func checkUnpack(t *testing.T, s string, n int) {
	t.Helper()
	want, e := decoded(s, n)
	unpackTo(t, s, n, want, e)
	if l, got := input.Unpack(s, n); got == api.OK {
		packTo(t, l, s)
	}
}

// TestUnpackShort: P6.3 and P6.5, with every string of up to two bytes, and every one of up to five that stand for all.
func TestUnpackShort(t *testing.T) {
	for b := range 1 << 16 {
		for _, n := range []int{0, 1, 9, most} {
			checkUnpack(t, string([]byte{byte(b)}), n)
			checkUnpack(t, string([]byte{byte(b), byte(b >> 8)}), n)
		}
	}
	bytes := "\x00\x01\x02\x03\x05\x3f\x40\x80\xff"
	strs := []string{""}
	for range 5 {
		var longer []string
		for _, s := range strs {
			for k := range len(bytes) {
				longer = append(longer, s+bytes[k:k+1])
			}
		}
		strs = longer
		for _, s := range strs {
			for _, n := range []int{-1, 0, 1, 3, 4, math.MaxInt} {
				checkUnpack(t, s, n)
			}
		}
	}
}

// anyRuns is a number of runs and runs, which may have every fault.
func anyRuns(r *rand.Rand) string {
	n := r.Intn(6)
	b := binary.AppendUvarint(nil, uint64(n+r.Intn(8)/7))
	for range n {
		b = binary.AppendUvarint(b, uint64(r.Intn(1<<r.Intn(14))+1-r.Intn(40)/39))
		b = append(b, byte(r.Intn(65)))
	}
	if r.Intn(9) == 0 {
		b = append(b, byte(r.Intn(3)))
	}
	return string(b)
}

// TestUnpackAny: P6.3 and P6.5, with runs of all kinds, and with encodings of which a byte was replaced, left out or put in.
func TestUnpackAny(t *testing.T) {
	r := rand.New(rand.NewSource(2))
	for range 20000 {
		s := anyRuns(r)
		checkUnpack(t, s, mosts[r.Intn(len(mosts))])
		checkUnpack(t, s, r.Intn(most))
	}
	for _, l := range lists() {
		s := encoding(l)
		for range 20 {
			at := r.Intn(len(s))
			one := string([]byte{byte(r.Uint32())})
			checkUnpack(t, s[:at]+one+s[at+1:], most)
			checkUnpack(t, s[:at]+s[at+1:], most)
			checkUnpack(t, s[:at]+one+s[at:], most)
		}
	}
}

// TestPredict: P6.4: the last input, whatever precedes it, and valid or not.
func TestPredict(t *testing.T) {
	same(t, "Predict of nil", input.Predict(nil), 0)
	for i := range 256 {
		last := api.Input(i)
		for _, l := range [][]api.Input{{last}, {1, last}, {last, last}, append(changing(300), last)} {
			same(t, fmt.Sprintf("Predict of %d inputs", len(l)), input.Predict(l), last)
		}
	}
	same(t, "Predict of 3, 0", input.Predict([]api.Input{3, 0}), 0)
}

// TestRoundTrip: P6.5: with a most of the list's length and above it, the list; with each below it, ErrLong.
func TestRoundTrip(t *testing.T) {
	for _, l := range lists() {
		s := input.Pack(l)
		for _, n := range append(mosts, len(l)-1, len(l), len(l)+1, len(l)/2) {
			if len(l) > bound(n) {
				unpackTo(t, s, n, nil, api.ErrLong)
				continue
			}
			unpackTo(t, s, n, l, api.OK)
		}
		again, _ := input.Unpack(s, most)
		packTo(t, again, s)
	}
}

// TestOneEncoding: P6.5: different lists have different encodings, and no run may be cut in two.
func TestOneEncoding(t *testing.T) {
	seen := map[string][]api.Input{}
	for _, l := range lists() {
		s := input.Pack(l)
		if other, ok := seen[s]; ok && !slices.Equal(l, other) {
			t.Errorf("%.20v and %.20v are packed the same way", l, other)
		}
		seen[s] = l
	}
	for n := 1; n < 9; n++ {
		unpackTo(t, string([]byte{2, byte(n), 5, byte(9 - n), 5}), 9, nil, api.ErrForm)
	}
}

// TestPrefixes: P6.6: every proper prefix, with each most that the list has room in.
func TestPrefixes(t *testing.T) {
	for _, l := range lists() {
		s := input.Pack(l)
		step := 1 + len(s)/500 // of the longest ones not all, but the last bytes each
		for cut := 0; cut < len(s); cut++ {
			unpackTo(t, s[:cut], len(l), nil, api.ErrTorn)
			unpackTo(t, s[:cut], math.MaxInt, nil, api.ErrTorn)
			if cut+5*step < len(s) {
				cut += step - 1
			}
		}
	}
}

// TestArguments: P6.6: they are neither changed nor kept, and what lies behind a list's end is neither read nor changed.
func TestArguments(t *testing.T) {
	for _, l := range lists() {
		whole := append(slices.Clone(l), 64, 255, 64)
		before := slices.Clone(whole)
		given := whole[:len(l)]
		s := input.Pack(given)
		kept := strings.Clone(s)
		input.Predict(given)
		if !slices.Equal(whole, before) {
			t.Fatalf("%.20v was changed", l)
		}
		for k := range whole {
			whole[k] = 99
		}
		same(t, "what was packed", s, kept)
		packTo(t, l, s)
	}
}

// TestNewMemory: P6.6: a list that was returned is the caller's own.
func TestNewMemory(t *testing.T) {
	s := "\x02\x03\x05\x01\x00"
	first, _ := input.Unpack(s, 4)
	second, _ := input.Unpack(s, 4)
	for k := range first {
		first[k] = 9
	}
	_ = append(first, 7, 7, 7)
	if !slices.Equal(second, []api.Input{5, 5, 5, 0}) {
		t.Errorf("two lists share memory: %v", second)
	}
	unpackTo(t, s, 4, []api.Input{5, 5, 5, 0}, api.OK)
}
