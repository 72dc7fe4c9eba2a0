package codec_test

import (
	"encoding/binary"
	"fmt"
	"math"
	"math/rand"
	"strings"
	"testing"

	"hindcast/api"
	"hindcast/codec"
)

const (
	nineOnes = "\xff\xff\xff\xff\xff\xff\xff\xff\xff"
	tenTops  = "\x80\x80\x80\x80\x80\x80\x80\x80\x80\x80"
)

// item is something that is written and read: kind names the methods of both, n is the number (of an I32: modulo 2^64), s the string.
type item struct {
	kind string
	n    uint64
	s    string
}

// String is short and printable, whatever the string is: it stands in a test's complaint.
func (it item) String() string { return fmt.Sprintf("%s %d %.40q", it.kind, it.n, it.s) }

var kinds = []string{"U8", "U16", "U32", "U64", "I32", "Var", "Text"}

// widths are the kinds of a fixed number of bytes.
var widths = map[string]int{"U8": 1, "U16": 2, "U32": 4, "U64": 8, "I32": 4}

func write(w *codec.Writer, it item) {
	switch it.kind {
	case "U8":
		w.U8(uint8(it.n))
	case "U16":
		w.U16(uint16(it.n))
	case "U32":
		w.U32(uint32(it.n))
	case "U64":
		w.U64(it.n)
	case "I32":
		w.I32(int32(it.n))
	case "Var":
		w.Var(it.n)
	case "Text":
		w.Text(it.s)
	}
}

func read(r *codec.Reader, kind string) item {
	it := item{kind: kind}
	switch kind {
	case "U8":
		it.n = uint64(r.U8())
	case "U16":
		it.n = uint64(r.U16())
	case "U32":
		it.n = uint64(r.U32())
	case "U64":
		it.n = r.U64()
	case "I32":
		it.n = uint64(r.I32())
	case "Var":
		it.n = r.Var()
	case "Text":
		it.s = r.Text()
	}
	return it
}

// encoding is worked out by the library's means: what binary calls a uvarint is the chapter's var, where nothing is longer than it must be.
func encoding(it item) string {
	if it.kind == "Var" {
		return string(binary.AppendUvarint(nil, it.n))
	}
	if it.kind == "Text" {
		return string(binary.AppendUvarint(nil, uint64(len(it.s)))) + it.s
	}
	return string(binary.LittleEndian.AppendUint64(nil, it.n)[:widths[it.kind]])
}

func written(l ...item) string {
	w := &codec.Writer{}
	for _, it := range l {
		write(w, it)
	}
	return w.Bytes()
}

// items are those of every kind at the edges, and many others of all sizes, the same ones in each run.
func items() []item {
	l := []item{
		{"U8", 0, ""}, {"U8", 1, ""}, {"U8", 127, ""}, {"U8", 128, ""}, {"U8", math.MaxUint8, ""},
		{"U16", 0, ""}, {"U16", 258, ""}, {"U16", 0xff00, ""}, {"U16", math.MaxUint16, ""},
		{"U32", 0, ""}, {"U32", 0x01020304, ""}, {"U32", 1 << 31, ""}, {"U32", math.MaxUint32, ""},
		{"U64", 0, ""}, {"U64", 0x0102030405060708, ""}, {"U64", 1 << 63, ""}, {"U64", math.MaxUint64, ""},
		{"I32", 0, ""}, {"I32", 1, ""}, signed(-1), signed(-2), signed(math.MinInt32), signed(math.MaxInt32),
	}
	for shift := 0; shift < 64; shift += 7 {
		n := uint64(1) << shift
		l = append(l, item{"Var", n - 1, ""}, item{"Var", n, ""}, item{"Var", n + 1, ""})
	}
	l = append(l, item{"Var", 300, ""}, item{"Var", math.MaxUint64 - 1, ""}, item{"Var", math.MaxUint64, ""})
	for _, n := range []int{0, 1, 2, 127, 128, 129, 16383, 16384} {
		l = append(l, item{"Text", 0, strings.Repeat("\x00", n)}, item{"Text", 0, strings.Repeat("\x80", n)})
	}
	r := rand.New(rand.NewSource(1))
	for range 2000 {
		l = append(l, anyItem(r))
	}
	return l
}

func signed(n int32) item { return item{"I32", uint64(n), ""} }

func anyItem(r *rand.Rand) item {
	kind := kinds[r.Intn(len(kinds))]
	n := r.Uint64() >> r.Intn(64)
	switch kind {
	case "Text":
		b := make([]byte, r.Intn(20))
		r.Read(b)
		return item{kind, 0, string(b)}
	case "I32":
		return signed(int32(r.Uint32()) >> r.Intn(32))
	case "Var":
		return item{kind, n, ""}
	}
	return item{kind, n & (math.MaxUint64 >> (64 - 8*widths[kind])), ""}
}

func same[T comparable](t *testing.T, what string, got, want T) {
	t.Helper()
	if got != want {
		t.Errorf("%s: %v, not %v", what, got, want)
	}
}

func sameBytes(t *testing.T, what, got, want string) {
	t.Helper()
	if got != want {
		t.Errorf("%s: %d bytes % .60x, not %d bytes % .60x", what, len(got), got, len(want), want)
	}
}

// readsNothing holds all that P2.4 says of a reader after an error.
func readsNothing(t *testing.T, what string, r *codec.Reader, e api.Errno) {
	t.Helper()
	for _, kind := range kinds {
		same(t, what+": Err", r.Err(), e)
		same(t, what+": Rest", r.Rest(), "")
		same(t, what, read(r, kind), item{kind: kind})
	}
	same(t, what+": Err", r.Err(), e)
	same(t, what+": Rest", r.Rest(), "")
}

// TestWrittenExamples holds the chapter's first table (P2.1).
func TestWrittenExamples(t *testing.T) {
	sameBytes(t, "numbers", written(item{"U8", 1, ""}, item{"U16", 258, ""}, item{"U32", 1, ""}, signed(-2)),
		"\x01\x02\x01\x01\x00\x00\x00\xfe\xff\xff\xff")
	sameBytes(t, "Var 0", written(item{"Var", 0, ""}), "\x00")
	sameBytes(t, "Var 127", written(item{"Var", 127, ""}), "\x7f")
	sameBytes(t, "Var 128", written(item{"Var", 128, ""}), "\x80\x01")
	sameBytes(t, "Var 300", written(item{"Var", 300, ""}), "\xac\x02")
	sameBytes(t, "Var 2^64 - 1", written(item{"Var", math.MaxUint64, ""}), nineOnes+"\x01")
	sameBytes(t, "texts", written(item{"Text", 0, "ab"}, item{"Text", 0, ""}), "\x02ab\x00")
}

// TestReadExamples holds the chapter's second table (P2.2, P2.3, P2.4).
func TestReadExamples(t *testing.T) {
	rows := []struct {
		kind, s string
		e       api.Errno
	}{
		{"U16", "\x01", api.ErrTorn},
		{"Var", "", api.ErrTorn},
		{"Var", "\x80", api.ErrTorn},
		{"Text", "\x02\x61", api.ErrTorn},
		{"Var", "\x80\x00", api.ErrForm},
		{"Var", "\x81\x00", api.ErrForm},
		{"Var", nineOnes + "\x02", api.ErrLong},
		{"Var", tenTops, api.ErrLong},
	}
	for _, row := range rows {
		r := codec.New(row.s)
		what := fmt.Sprintf("%s of % x", row.kind, row.s)
		same(t, what, read(r, row.kind), item{kind: row.kind})
		readsNothing(t, what, r, row.e)
	}
	r := codec.New("\x01\x02")
	same(t, "U8 of 01 02", r.U8(), 1)
	same(t, "its Err", r.Err(), api.OK)
	same(t, "then U16", r.U16(), 0)
	same(t, "its Err", r.Err(), api.ErrTorn)
	same(t, "then U8", r.U8(), 0)
	same(t, "the rest", r.Rest(), "")
}

// TestWriter: P2.1: each kind's encoding, at both ends of each width, too.
func TestWriter(t *testing.T) {
	for _, it := range items() {
		sameBytes(t, fmt.Sprint(it), written(it), encoding(it))
	}
}

// TestWriterAppends: P2.1: what is written goes behind what was, and Bytes may be asked in between.
func TestWriterAppends(t *testing.T) {
	w := &codec.Writer{}
	sameBytes(t, "nothing written", w.Bytes(), "")
	want := ""
	for _, it := range items() {
		before := w.Bytes()
		write(w, it)
		sameBytes(t, "asked ahead of "+it.kind, before, want)
		want += encoding(it)
	}
	sameBytes(t, "all items", w.Bytes(), want)
	sameBytes(t, "asked again", w.Bytes(), want)
}

// TestZeroWriter: P2.1: two of them have nothing to do with each other.
func TestZeroWriter(t *testing.T) {
	var a, b codec.Writer
	a.U8(1)
	sameBytes(t, "the other one", b.Bytes(), "")
	b.U8(2)
	sameBytes(t, "the first", a.Bytes(), "\x01")
	sameBytes(t, "the second", b.Bytes(), "\x02")
}

// TestNilWriter: P2.1.
func TestNilWriter(t *testing.T) {
	var w *codec.Writer
	for _, it := range items() {
		write(w, it)
		same(t, "Bytes of nil", w.Bytes(), "")
	}
}

// TestNumbers: P2.2: each number with nothing behind it, and with something, which is the rest then.
func TestNumbers(t *testing.T) {
	for _, it := range items() {
		if widths[it.kind] == 0 {
			continue
		}
		for _, rest := range []string{"", "\x00", "\xff\xff\xff\xff\xff\xff\xff\xff\xff"} {
			r := codec.New(encoding(it) + rest)
			same(t, it.kind, read(r, it.kind), it)
			same(t, it.kind+": Err", r.Err(), api.OK)
			sameBytes(t, it.kind+": Rest", r.Rest(), rest)
		}
	}
}

// TestTooFewBytes: P2.2 and P2.4: each number of bytes below the width, from none on; none of them is given out.
func TestTooFewBytes(t *testing.T) {
	for kind, width := range widths {
		for n := range width {
			r := codec.New(strings.Repeat("\xff", n))
			what := fmt.Sprintf("%s of %d bytes", kind, n)
			same(t, what, read(r, kind), item{kind: kind})
			readsNothing(t, what, r, api.ErrTorn)
		}
	}
}

// varOf is P2.3 by other means: binary reads a longer encoding, too, but never writes one.
func varOf(s string) (n uint64, rest string, e api.Errno) {
	n, used := binary.Uvarint([]byte(s))
	switch {
	case used == 0 && len(s) < 10:
		return 0, "", api.ErrTorn
	case used <= 0: // binary wants an eleventh byte to see that ten go on
		return 0, "", api.ErrLong
	case used != len(binary.AppendUvarint(nil, n)):
		return 0, "", api.ErrForm
	}
	return n, s[used:], api.OK
}

func checkVar(t *testing.T, s string) {
	t.Helper()
	r := codec.New(s)
	n, rest, e := varOf(s)
	what := fmt.Sprintf("Var of % x", s)
	same(t, what, r.Var(), n)
	same(t, what+": Err", r.Err(), e)
	sameBytes(t, what+": Rest", r.Rest(), rest)
}

// TestVarOfAllShort: P2.3, with every string of up to two bytes.
func TestVarOfAllShort(t *testing.T) {
	checkVar(t, "")
	for a := range 256 {
		checkVar(t, string([]byte{byte(a)}))
		for b := range 256 {
			checkVar(t, string([]byte{byte(a), byte(b)}))
		}
	}
}

// TestVarOfLong: P2.3: every byte in every place behind bytes that go on, and something behind it.
func TestVarOfLong(t *testing.T) {
	for n := range 10 {
		for b := range 256 {
			for _, on := range []string{"\x80", "\xff"} {
				s := strings.Repeat(on, n) + string([]byte{byte(b)})
				checkVar(t, s)
				checkVar(t, s+"\x00")
				checkVar(t, s+"\x01")
			}
		}
	}
}

// TestVarFaults: P2.3: which error comes first.
func TestVarFaults(t *testing.T) {
	rows := []struct {
		s string
		e api.Errno
	}{
		{nineOnes, api.ErrTorn},
		{nineOnes + "\x00", api.ErrForm},
		{nineOnes + "\x01", api.OK},
		{nineOnes + "\x7f", api.ErrLong},
		{nineOnes + "\x80", api.ErrLong},
		{nineOnes + "\x81\x00", api.ErrLong},
		{tenTops[:9] + "\x00", api.ErrForm},
		{tenTops[:9] + "\x01", api.OK},
		{tenTops[:8] + "\x00", api.ErrForm},
		{"\x00\x00", api.OK},
		{"\x00\x80", api.OK},
		{"\x80\x80\x00", api.ErrForm},
	}
	for _, row := range rows {
		r := codec.New(row.s)
		r.Var()
		same(t, fmt.Sprintf("% x", row.s), r.Err(), row.e)
	}
}

// TestText: P2.3: as many bytes as are said, with others behind them, or none.
func TestText(t *testing.T) {
	for _, it := range items() {
		if it.kind != "Text" {
			continue
		}
		for _, rest := range []string{"", "\x00", "ab"} {
			r := codec.New(encoding(it) + rest)
			sameBytes(t, "Text", r.Text(), it.s)
			same(t, "its Err", r.Err(), api.OK)
			sameBytes(t, "its Rest", r.Rest(), rest)
		}
	}
}

// TestTextFaults: P2.3 and P2.4: the errors of its var come first; the length may be above every int.
func TestTextFaults(t *testing.T) {
	for s, e := range map[string]api.Errno{
		"":                api.ErrTorn,
		"\x80":            api.ErrTorn,
		"\x80\x00":        api.ErrForm,
		"\x81\x00a":       api.ErrForm,
		nineOnes + "\x02": api.ErrLong,
		tenTops:           api.ErrLong,
	} {
		r := codec.New(s)
		same(t, fmt.Sprintf("Text of % x", s), r.Text(), "")
		readsNothing(t, fmt.Sprintf("Text of % x", s), r, e)
	}
	for _, n := range []uint64{4, 5, 127, 128, 1 << 31, 1 << 32, 1<<32 + 1, 1<<63 - 1, 1 << 63, 1<<63 + 1, math.MaxUint64} {
		r := codec.New(encoding(item{"Var", n, ""}) + "abc")
		same(t, fmt.Sprintf("Text of %d bytes, three left", n), r.Text(), "")
		readsNothing(t, fmt.Sprintf("Text of %d bytes, three left", n), r, api.ErrTorn)
	}
}

// TestFirstError: P2.4: bytes that could be read are not, after an error, and it stays the first one, whatever is asked next.
func TestFirstError(t *testing.T) {
	good := "\x01\x02\x03\x04\x05\x06\x07\x08\x09"
	for _, bad := range []struct {
		kind, s string
		e       api.Errno
	}{
		{"Var", "\x80\x00" + good, api.ErrForm},
		{"Text", "\x80\x00" + good, api.ErrForm},
		{"Var", nineOnes + "\x02" + good, api.ErrLong},
		{"Text", nineOnes + "\x02" + good, api.ErrLong},
		{"Text", "\x7f" + good, api.ErrTorn},
		{"U64", good[:7], api.ErrTorn},
	} {
		for _, ahead := range kinds {
			it := item{kind: ahead}
			r := codec.New(encoding(it) + bad.s)
			same(t, "ahead of the error", read(r, ahead), it)
			same(t, "Err ahead of it", r.Err(), api.OK)
			same(t, bad.kind, read(r, bad.kind), item{kind: bad.kind})
			readsNothing(t, bad.kind, r, bad.e)
		}
	}
}

// TestRest: P2.4: asking for it, or for the error, reads nothing; each reader has a place of its own.
func TestRest(t *testing.T) {
	s := "\x01\x02\x03"
	r, other := codec.New(s), codec.New(s)
	for i := range len(s) {
		sameBytes(t, "Rest", r.Rest(), s[i:])
		sameBytes(t, "Rest again", r.Rest(), s[i:])
		same(t, "Err", r.Err(), api.OK)
		same(t, "U8", r.U8(), s[i])
	}
	sameBytes(t, "Rest at the end", r.Rest(), "")
	same(t, "Err at the end", r.Err(), api.OK)
	sameBytes(t, "Rest of the other reader", other.Rest(), s)
	same(t, "Err of a new reader of nothing", codec.New("").Err(), api.OK)
}

// TestNilReader: P2.4; and the zero value of a Reader has nothing to read.
func TestNilReader(t *testing.T) {
	readsNothing(t, "nil", nil, api.ErrNil)
	for _, kind := range kinds {
		var r codec.Reader
		same(t, "Err of the zero value", r.Err(), api.OK)
		same(t, "Rest of the zero value", r.Rest(), "")
		same(t, kind+" of the zero value", read(&r, kind), item{kind: kind})
		readsNothing(t, "the zero value, after "+kind, &r, api.ErrTorn)
	}
}

// someItems are up to eight items of any kinds.
func someItems(r *rand.Rand) []item {
	l := make([]item, r.Intn(9))
	for i := range l {
		l[i] = anyItem(r)
	}
	return l
}

// TestReadBack: P2.5: all items at once, and many short lists.
func TestReadBack(t *testing.T) {
	checkReadBack(t, items())
	r := rand.New(rand.NewSource(2))
	for range 2000 {
		checkReadBack(t, someItems(r))
	}
}

func checkReadBack(t *testing.T, l []item) {
	t.Helper()
	r := codec.New(written(l...))
	for _, it := range l {
		same(t, "read back", read(r, it.kind), it)
	}
	same(t, "Err at the end", r.Err(), api.OK)
	same(t, "Rest at the end", r.Rest(), "")
}

// TestPrefixes: P2.6: each proper prefix yields the items that are whole, then ErrTorn.
func TestPrefixes(t *testing.T) {
	r := rand.New(rand.NewSource(3))
	for range 500 {
		l := someItems(r)
		s := written(l...)
		for cut := range len(s) {
			checkPrefix(t, l, s[:cut])
		}
	}
}

func checkPrefix(t *testing.T, l []item, s string) {
	t.Helper()
	r := codec.New(s)
	end := 0
	for _, it := range l {
		end += len(encoding(it))
		want, e := it, api.OK
		if end > len(s) {
			want, e = item{kind: it.kind}, api.ErrTorn
		}
		same(t, "of a prefix", read(r, it.kind), want)
		same(t, "Err in a prefix", r.Err(), e)
	}
	same(t, "Err at the end of a prefix", r.Err(), api.ErrTorn)
}

// TestWrittenAgain: P2.6: whatever the bytes are, what is read of them without an error is written as the same bytes.
func TestWrittenAgain(t *testing.T) {
	r := rand.New(rand.NewSource(4))
	for range 20000 {
		b := make([]byte, r.Intn(40))
		for i := range b {
			b[i] = []byte{0, 1, 2, 0x7f, 0x80, 0x81, 0xff, byte(r.Int())}[r.Intn(8)]
		}
		checkWrittenAgain(t, r, string(b))
	}
}

func checkWrittenAgain(t *testing.T, choice *rand.Rand, s string) {
	t.Helper()
	r := codec.New(s)
	var l []item
	used := 0
	for {
		it := read(r, kinds[choice.Intn(len(kinds))])
		if r.Err() != api.OK {
			break
		}
		l = append(l, it)
		used = len(s) - len(r.Rest())
	}
	sameBytes(t, "written again", written(l...), s[:used])
}
