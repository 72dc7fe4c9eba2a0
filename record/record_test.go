package record_test

import (
	"encoding/binary"
	"math"
	"math/rand"
	"slices"
	"strings"
	"testing"

	"hindcast/api"
	"hindcast/record"
)

const below = 64 // every valid input is below it

// lengths are those of the encodings, by their kinds.
var lengths = map[int]int{1: 10, 2: 11, 3: 26}

// field is one of a Record, with the kinds that name it.
type field struct {
	name  string
	width int // bits
	kinds []int
	set   func(r *record.Record, n uint64)
}

var fields = []field{
	{"Frame", 64, []int{1, 2}, func(r *record.Record, n uint64) { r.Frame = n }},
	{"Own", 8, []int{1}, func(r *record.Record, n uint64) { r.Own = api.Input(n) }},
	{"Pair[0]", 8, []int{2}, func(r *record.Record, n uint64) { r.Pair[0] = api.Input(n) }},
	{"Pair[1]", 8, []int{2}, func(r *record.Record, n uint64) { r.Pair[1] = api.Input(n) }},
	{"Segment", 64, []int{3}, func(r *record.Record, n uint64) { r.Segment = n }},
	{"First", 64, []int{3}, func(r *record.Record, n uint64) { r.First = n }},
	{"Epoch", 64, []int{3}, func(r *record.Record, n uint64) { r.Epoch = n }},
	{"Player", 8, []int{3}, func(r *record.Record, n uint64) { r.Player = uint8(n) }},
}

// byWords is the chapter's definition of a valid record.
func byWords(r record.Record) bool {
	if r.Own >= below || r.Pair[0] >= below || r.Pair[1] >= below || r.Player > 1 {
		return false
	}
	switch r.Kind {
	case 1:
		return r == record.Record{Kind: 1, Frame: r.Frame, Own: r.Own}
	case 2:
		return r == record.Record{Kind: 2, Frame: r.Frame, Pair: r.Pair}
	case 3:
		return r == record.Record{Kind: 3, Segment: r.Segment, First: r.First, Epoch: r.Epoch, Player: r.Player}
	}
	return false
}

// bytesOf is the chapter's definition of an encoding, for the three kinds, also where the record is not valid.
func bytesOf(r record.Record) string {
	b := []byte{byte(r.Kind)}
	switch r.Kind {
	case 1:
		b = append(binary.LittleEndian.AppendUint64(b, r.Frame), byte(r.Own))
	case 2:
		b = append(binary.LittleEndian.AppendUint64(b, r.Frame), byte(r.Pair[0]), byte(r.Pair[1]))
	case 3:
		for _, n := range []uint64{r.Segment, r.First, r.Epoch} {
			b = binary.LittleEndian.AppendUint64(b, n)
		}
		b = append(b, r.Player)
	}
	return string(b)
}

// taken is P15.1 of Take word by word.
func taken(s string) (record.Record, api.Errno) {
	if s == "" {
		return record.Record{}, api.ErrTorn
	}
	kind := int(s[0])
	if kind < 1 || kind > 3 {
		return record.Record{}, api.ErrForm
	}
	if len(s) < lengths[kind] {
		return record.Record{}, api.ErrTorn
	}
	if len(s) > lengths[kind] {
		return record.Record{}, api.ErrForm
	}
	r := record.Record{Kind: kind}
	number := func(at int) uint64 { return binary.LittleEndian.Uint64([]byte(s[at : at+8])) }
	switch kind {
	case 1:
		r.Frame, r.Own = number(1), api.Input(s[9])
	case 2:
		r.Frame, r.Pair = number(1), api.Pair{api.Input(s[9]), api.Input(s[10])}
	case 3:
		r.Segment, r.First, r.Epoch, r.Player = number(1), number(9), number(17), s[25]
	}
	if !byWords(r) {
		return record.Record{}, api.ErrForm
	}
	return r, api.OK
}

// putTo and takeTo hold the two results of Put and of Take.
func putTo(t *testing.T, r record.Record, want string, e api.Errno) {
	t.Helper()
	if s, got := record.Put(r); s != want || got != e {
		t.Errorf("Put of %+v: % x, %d, not % x, %d", r, s, got, want, e)
	}
}

func takeTo(t *testing.T, s string, want record.Record, e api.Errno) {
	t.Helper()
	if r, got := record.Take(s); r != want || got != e {
		t.Errorf("Take of %d bytes % .40x: %+v, %d, not %+v, %d", len(s), s, r, got, want, e)
	}
}

// refused is for a record that must not be valid, and noRecord for bytes that Take must answer with e: whatever byWords and taken say of them.
func refused(t *testing.T, r record.Record) {
	t.Helper()
	putTo(t, r, "", api.ErrForm)
}

func noRecord(t *testing.T, s string, e api.Errno) {
	t.Helper()
	takeTo(t, s, record.Record{}, e)
}

// both holds Put of a valid record, and Take of its bytes.
func both(t *testing.T, r record.Record) {
	t.Helper()
	putTo(t, r, bytesOf(r), api.OK)
	takeTo(t, bytesOf(r), r, api.OK)
}

// samples are a record of each kind, each field that it names being not 0.
func samples() []record.Record {
	return []record.Record{
		{Kind: 1, Frame: 0x0102030405060708, Own: 5},
		{Kind: 2, Frame: 0x1112131415161718, Pair: api.Pair{2, 3}},
		{Kind: 3, Segment: 0x0102030405060708, First: 0x1112131415161718, Epoch: 0x2122232425262728, Player: 1},
	}
}

// numbers are the limits, each byte alone, each bit alone, and those where the number of bytes changes.
func numbers() []uint64 {
	l := []uint64{0, 1, 2, 258, 0x0102030405060708, math.MaxInt64, math.MaxUint64 - 1, math.MaxUint64}
	for i := range 8 {
		l = append(l, 0xff<<(8*i), 0xa5<<(8*i), ^uint64(0xff<<(8*i)))
	}
	for i := range 64 {
		l = append(l, 1<<i, 1<<i-1, 1<<i+1)
	}
	return l
}

// anyRecord is a valid record: each number is drawn from numbers, or is any one.
func anyRecord(r *rand.Rand) record.Record {
	edges := numbers()
	number := func() uint64 {
		if r.Intn(2) == 0 {
			return edges[r.Intn(len(edges))]
		}
		return r.Uint64() >> r.Intn(64)
	}
	in := func() api.Input { return api.Input(r.Intn(below)) }
	switch 1 + r.Intn(3) {
	case 1:
		return record.Record{Kind: 1, Frame: number(), Own: in()}
	case 2:
		return record.Record{Kind: 2, Frame: number(), Pair: api.Pair{in(), in()}}
	}
	return record.Record{Kind: 3, Segment: number(), First: number(), Epoch: number(), Player: uint8(r.Intn(2))}
}

// TestExamples holds the chapter's table.
func TestExamples(t *testing.T) {
	putTo(t, record.Record{Kind: record.Own, Frame: 258, Own: 5}, "\x01\x02\x01\x00\x00\x00\x00\x00\x00\x05", api.OK)
	putTo(t, record.Record{Kind: record.Sure, Frame: 1, Pair: api.Pair{2, 3}}, "\x02\x01\x00\x00\x00\x00\x00\x00\x00\x02\x03", api.OK)
	head := record.Record{Kind: record.Head, Segment: 1, First: 2, Epoch: 3, Player: 1}
	s := "\x03\x01\x00\x00\x00\x00\x00\x00\x00\x02\x00\x00\x00\x00\x00\x00\x00\x03\x00\x00\x00\x00\x00\x00\x00\x01"
	if len(s) != 26 {
		t.Fatalf("the example of a Head has %d bytes", len(s))
	}
	putTo(t, head, s, api.OK)
	takeTo(t, s, head, api.OK)
	noRecord(t, s[:25], api.ErrTorn)
	noRecord(t, s+"\x00", api.ErrForm)
	refused(t, record.Record{Kind: record.Own, Own: 64})
	refused(t, record.Record{Kind: record.Own, Player: 1})
	refused(t, record.Record{Kind: 4})
	noRecord(t, "", api.ErrTorn)
	noRecord(t, "\x04", api.ErrForm)
	noRecord(t, "\x01\x00\x00\x00\x00\x00\x00\x00\x00\x40", api.ErrForm)
}

// TestConstants: the kinds are 1, 2, 3, and constants without a type.
func TestConstants(t *testing.T) {
	const own, sure, head uint8 = record.Own, record.Sure, record.Head
	if own != 1 || sure != 2 || head != 3 {
		t.Errorf("Own, Sure, Head: %d, %d, %d", own, sure, head)
	}
}

// TestZeros: P15.1: a record of each kind with nothing but its kind is valid.
func TestZeros(t *testing.T) {
	for kind, n := range lengths {
		s := string([]byte{byte(kind)}) + strings.Repeat("\x00", n-1)
		putTo(t, record.Record{Kind: kind}, s, api.OK)
		takeTo(t, s, record.Record{Kind: kind}, api.OK)
	}
}

// TestPlaces: P15.1: the places of all bytes, each of them another one.
func TestPlaces(t *testing.T) {
	for i, s := range []string{
		"\x01\x08\x07\x06\x05\x04\x03\x02\x01\x05",
		"\x02\x18\x17\x16\x15\x14\x13\x12\x11\x02\x03",
		"\x03\x08\x07\x06\x05\x04\x03\x02\x01\x18\x17\x16\x15\x14\x13\x12\x11\x28\x27\x26\x25\x24\x23\x22\x21\x01",
	} {
		putTo(t, samples()[i], s, api.OK)
		takeTo(t, s, samples()[i], api.OK)
	}
}

// TestFields: P15.1: each number in each field that a kind names, the others being 0, and being not 0.
func TestFields(t *testing.T) {
	for _, full := range samples() {
		for _, f := range fields {
			if f.width < 64 || !slices.Contains(f.kinds, full.Kind) {
				continue
			}
			for _, n := range numbers() {
				alone := record.Record{Kind: full.Kind}
				f.set(&alone, n)
				both(t, alone)
				with := full
				f.set(&with, n)
				both(t, with)
			}
		}
	}
}

// TestInputsAndPlayers: P15.1: all bytes, in each field of eight bits that a kind names: valid up to a bound.
func TestInputsAndPlayers(t *testing.T) {
	for _, full := range samples() {
		for _, f := range fields {
			if f.width > 8 || !slices.Contains(f.kinds, full.Kind) {
				continue
			}
			first := uint64(below)
			if f.name == "Player" {
				first = 2
			}
			for n := range uint64(256) {
				for _, r := range []record.Record{{Kind: full.Kind}, full} {
					f.set(&r, n)
					if n < first {
						both(t, r)
					} else {
						refused(t, r)
						noRecord(t, bytesOf(r), api.ErrForm)
					}
				}
			}
		}
	}
}

// TestUnnamedFields: P15.1: each field that a kind does not name: with any bit, and any value, that would be valid in another kind, or not.
func TestUnnamedFields(t *testing.T) {
	for _, full := range samples() {
		for _, f := range fields {
			if slices.Contains(f.kinds, full.Kind) {
				continue
			}
			for _, n := range numbers() {
				if n<<(64-f.width) == 0 {
					continue // 0 in a field of that width
				}
				alone := record.Record{Kind: full.Kind}
				f.set(&alone, n)
				refused(t, alone)
				with := full
				f.set(&with, n)
				refused(t, with)
			}
		}
	}
}

// TestUnnamedInputs: P15.1: every byte but 0, where a kind names no input, or no player.
func TestUnnamedInputs(t *testing.T) {
	for _, full := range samples() {
		for _, f := range fields {
			if f.width > 8 || slices.Contains(f.kinds, full.Kind) {
				continue
			}
			for n := uint64(1); n < 256; n++ {
				r := full
				f.set(&r, n)
				refused(t, r)
			}
		}
	}
}

// TestOtherKinds: P15.1: numbers that are no kind, whatever their lowest byte is, with nothing else, and with the fields of each kind.
func TestOtherKinds(t *testing.T) {
	kinds := []int{0, 4, 5, -1, -2, -3, -4, math.MinInt, math.MaxInt, math.MinInt32, math.MaxInt32}
	for n := 6; n <= 1100; n++ {
		kinds = append(kinds, n, -n)
	}
	for low := range 5 {
		for i := 8; i < 64; i++ {
			kinds = append(kinds, 1<<i+low, -1<<i+low)
		}
	}
	for _, kind := range kinds {
		refused(t, record.Record{Kind: kind})
		for _, r := range samples() {
			r.Kind = kind
			refused(t, r)
		}
	}
}

// TestMixedKinds: P15.1: the fields of one kind in a record of another one.
func TestMixedKinds(t *testing.T) {
	for _, r := range samples() {
		for kind := 1; kind <= 3; kind++ {
			other := r
			other.Kind = kind
			if kind != r.Kind {
				refused(t, other)
			}
		}
	}
}

// TestTakeOneByte: P15.1: the empty string, and each byte alone.
func TestTakeOneByte(t *testing.T) {
	noRecord(t, "", api.ErrTorn)
	for b := range 256 {
		e := api.ErrForm
		if b >= 1 && b <= 3 {
			e = api.ErrTorn
		}
		noRecord(t, string([]byte{byte(b)}), e)
	}
}

// TestTakeOtherKinds: P15.1: a first byte that is no kind comes ahead of what is missing, or too much.
func TestTakeOtherKinds(t *testing.T) {
	for b := range 256 {
		if b >= 1 && b <= 3 {
			continue
		}
		for n := range 40 {
			noRecord(t, string([]byte{byte(b)})+strings.Repeat("\x00", n), api.ErrForm)
			noRecord(t, string([]byte{byte(b)})+strings.Repeat("\xff", n), api.ErrForm)
		}
		for _, r := range samples() {
			noRecord(t, string([]byte{byte(b)})+bytesOf(r)[1:], api.ErrForm)
		}
	}
}

// TestTakeShort: P15.1: each beginning of an encoding, also where what is there of it is not valid already.
func TestTakeShort(t *testing.T) {
	for _, r := range samples() {
		s := bytesOf(r)
		spoilt := s[:1] + strings.Repeat("\xff", len(s)-1)
		for n := range len(s) {
			noRecord(t, s[:n], api.ErrTorn)
			noRecord(t, spoilt[:n], api.ErrTorn)
		}
	}
	for _, b := range []byte{64, 128, 255} {
		s := bytesOf(record.Record{Kind: 2, Frame: 7, Pair: api.Pair{api.Input(b), 0}})
		noRecord(t, s[:10], api.ErrTorn)
	}
}

// TestTakeLong: P15.1: each byte behind an encoding, many bytes, and a second encoding; also where it is none of a valid record.
func TestTakeLong(t *testing.T) {
	for _, r := range samples() {
		spoilt := r
		spoilt.Player, spoilt.Own, spoilt.Pair = 2, 64, api.Pair{64, 64}
		for _, s := range []string{bytesOf(r), bytesOf(spoilt), bytesOf(record.Record{Kind: r.Kind})} {
			for b := range 256 {
				noRecord(t, s+string([]byte{byte(b)}), api.ErrForm)
			}
			for _, n := range []int{2, 3, 8, 16, 255, 256, 1 << 16, 1 << 20} {
				noRecord(t, s+strings.Repeat("\x00", n), api.ErrForm)
				noRecord(t, s+strings.Repeat("\x01", n), api.ErrForm)
			}
			for _, other := range samples() {
				noRecord(t, s+bytesOf(other), api.ErrForm)
			}
		}
	}
}

// TestTakeSpoilt: P15.1: each byte of an encoding as each other one.
func TestTakeSpoilt(t *testing.T) {
	for _, r := range samples() {
		s := bytesOf(r)
		for i := range len(s) {
			for b := range 256 {
				one := s[:i] + string([]byte{byte(b)}) + s[i+1:]
				want, e := taken(one)
				takeTo(t, one, want, e)
			}
		}
	}
}

// anyBytes are of any length up to a few above that of the longest encoding, or of that of their kind; their last two bytes are small, so that many of them are encodings.
func anyBytes(r *rand.Rand) string {
	kind := r.Intn(5)
	n := lengths[kind]
	if n == 0 || r.Intn(2) == 0 {
		n = 3 + r.Intn(30)
	}
	b := make([]byte, n)
	r.Read(b)
	b[0] = byte(kind)
	for i := n - 2; i < n; i++ {
		b[i] >>= r.Intn(8)
	}
	return string(b)
}

// TestTakeAnyBytes: P15.1 and P15.2: what is taken of any bytes is put as the same bytes.
func TestTakeAnyBytes(t *testing.T) {
	r := rand.New(rand.NewSource(1))
	good := 0
	for range 20000 {
		s := anyBytes(r)
		want, e := taken(s)
		takeTo(t, s, want, e)
		if e == api.OK {
			good++
			putTo(t, want, s, api.OK)
		}
	}
	if good < 1000 {
		t.Errorf("only %d of the bytes were an encoding", good)
	}
}

// TestThereAndBack: P15.2: Take of Put for many records, and Put of Take for their bytes.
func TestThereAndBack(t *testing.T) {
	r := rand.New(rand.NewSource(2))
	for range 20000 {
		one := anyRecord(r)
		s, e := record.Put(one)
		if s != bytesOf(one) || e != api.OK {
			t.Fatalf("Put of %+v: % x, %d", one, s, e)
		}
		back, e := record.Take(s)
		if back != one || e != api.OK {
			t.Fatalf("Take of Put of %+v: %+v, %d", one, back, e)
		}
		if again, e := record.Put(back); again != s || e != api.OK {
			t.Fatalf("Put of Take of % x: % x, %d", s, again, e)
		}
	}
}

// TestAnyRecords: P15.1 and P15.2: records that are valid or not, against the chapter's definition; what has an encoding comes back.
func TestAnyRecords(t *testing.T) {
	r := rand.New(rand.NewSource(3))
	good := 0
	for range 20000 {
		one := anyRecord(r)
		for range r.Intn(3) {
			f := fields[r.Intn(len(fields))]
			f.set(&one, numbers()[r.Intn(len(numbers()))])
		}
		if r.Intn(8) == 0 {
			one.Kind = r.Intn(600) - 300
		}
		if !byWords(one) {
			refused(t, one)
			continue
		}
		good++
		both(t, one)
	}
	if good < 1000 {
		t.Errorf("only %d of the records were valid", good)
	}
}

// TestNoBeginnings: P15.2: of many encodings none is the beginning of another one: sorted, one that is stands right ahead of one that it begins.
func TestNoBeginnings(t *testing.T) {
	r := rand.New(rand.NewSource(4))
	var l []string
	add := func(one record.Record) {
		s, e := record.Put(one)
		if e != api.OK {
			t.Fatalf("Put of %+v: %d", one, e)
		}
		l = append(l, s)
	}
	for _, n := range numbers() {
		for in := range api.Input(below) {
			add(record.Record{Kind: record.Own, Frame: n, Own: in})
			add(record.Record{Kind: record.Sure, Frame: n, Pair: api.Pair{in, below - 1 - in}})
		}
		add(record.Record{Kind: record.Head, Segment: n, First: n, Epoch: n, Player: 1})
	}
	for range 5000 {
		add(anyRecord(r))
	}
	slices.Sort(l)
	l = slices.Compact(l)
	for i := 1; i < len(l); i++ {
		if strings.HasPrefix(l[i], l[i-1]) {
			t.Errorf("% x begins % x", l[i-1], l[i])
		}
	}
}

// TestOnceMore: DOC.md's rules: what a call answers hangs on its argument alone, whatever was asked in between.
func TestOnceMore(t *testing.T) {
	for range 3 {
		for _, r := range samples() {
			both(t, r)
			refused(t, record.Record{Kind: r.Kind, Own: 64})
			noRecord(t, bytesOf(r)[:9], api.ErrTorn)
			noRecord(t, bytesOf(r)+"\x00", api.ErrForm)
		}
	}
}
