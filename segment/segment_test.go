package segment_test

import (
	"encoding/binary"
	"fmt"
	"hash/crc32"
	"math"
	"math/rand"
	"slices"
	"strings"
	"testing"

	"hindcast/api"
	"hindcast/disk"
	"hindcast/names"
	"hindcast/power"
	"hindcast/record"
	"hindcast/segment"
)

const last = math.MaxUint64 // of all numbers, and of all frames

func own(f uint64, i api.Input) record.Record { return record.Record{Kind: 1, Frame: f, Own: i} }

func sure(f uint64, a, b api.Input) record.Record {
	return record.Record{Kind: 2, Frame: f, Pair: api.Pair{a, b}}
}

func head(n, first uint64, player uint8) record.Record {
	return record.Record{Kind: 3, Segment: n, First: first, Epoch: 1, Player: player}
}

// encoded is chapter 15's encoding, also of a record that is not valid.
func encoded(r record.Record) string {
	b := []byte{byte(r.Kind)}
	switch r.Kind {
	case 1:
		b = append(binary.LittleEndian.AppendUint64(b, r.Frame), byte(r.Own))
	case 2:
		b = append(binary.LittleEndian.AppendUint64(b, r.Frame), byte(r.Pair[0]), byte(r.Pair[1]))
	case 3:
		for _, n := range []uint64{r.Segment, r.First, r.Epoch} {
			b = binary.LittleEndian.AppendUint64(b, n)
		}
		b = append(b, r.Player)
	}
	return string(b)
}

// framed is chapter 4's frame.
func framed(payload string) string {
	length := binary.LittleEndian.AppendUint16(nil, uint16(len(payload)))
	sum := crc32.ChecksumIEEE(append(slices.Clone(length), payload...))
	return string(binary.LittleEndian.AppendUint32(length, sum)) + payload
}

// bytesOf is the bytes of records, one after the other.
func bytesOf(l ...record.Record) string {
	var b strings.Builder
	for _, r := range l {
		b.WriteString(framed(encoded(r)))
	}
	return b.String()
}

// firstFrame is P4.2 word by word.
func firstFrame(s string) (payload string, used int, e api.Errno) {
	if len(s) < 6 {
		return "", 0, api.ErrTorn
	}
	n := int(s[0]) + 256*int(s[1])
	switch {
	case n > 4096:
		return "", 0, api.ErrLong
	case len(s)-6 < n:
		return "", 0, api.ErrTorn
	case framed(s[6:6+n]) != s[:6+n]:
		return "", 0, api.ErrSum
	}
	return s[6 : 6+n], 6 + n, api.OK
}

// taken is P15.1 of Take word by word.
func taken(s string) (record.Record, api.Errno) {
	lengths := map[byte]int{1: 10, 2: 11, 3: 26}
	switch {
	case s == "":
		return record.Record{}, api.ErrTorn
	case lengths[s[0]] == 0:
		return record.Record{}, api.ErrForm
	case len(s) < lengths[s[0]]:
		return record.Record{}, api.ErrTorn
	case len(s) > lengths[s[0]]:
		return record.Record{}, api.ErrForm
	}
	number := func(at int) uint64 { return binary.LittleEndian.Uint64([]byte(s[at : at+8])) }
	r := record.Record{Kind: int(s[0])}
	switch r.Kind {
	case 1:
		r.Frame, r.Own = number(1), api.Input(s[9])
	case 2:
		r.Frame, r.Pair = number(1), api.Pair{api.Input(s[9]), api.Input(s[10])}
	case 3:
		r.Segment, r.First, r.Epoch, r.Player = number(1), number(9), number(17), s[25]
	}
	if r.Own > 63 || r.Pair[0] > 63 || r.Pair[1] > 63 || r.Player > 1 {
		return record.Record{}, api.ErrForm
	}
	return r, api.OK
}

// following is the error of a record behind those of all, which continue and agree: counted anew each time.
func following(all []record.Record, r record.Record, n uint64) api.Errno {
	if len(all) == 0 {
		if r.Kind == 3 && r.Segment == n {
			return api.OK
		}
		return api.ErrOrder
	}
	count, owned := all[0].First, all[0].First
	inputs := map[uint64]api.Input{}
	for _, one := range all[1:] {
		if one.Kind == 1 {
			inputs[one.Frame] = one.Own
			owned++
		} else {
			count++
		}
	}
	switch {
	case r.Kind == 3:
		return api.ErrOrder
	case r.Kind == 1 && (r.Frame != owned || owned-count >= 12 || r.Frame == last):
		return api.ErrOrder
	case r.Kind == 2 && (r.Frame != count || count == owned):
		return api.ErrOrder
	case r.Kind == 2 && r.Pair[all[0].Player] != inputs[r.Frame]:
		return api.ErrClash
	}
	return api.OK
}

// found is what Scan returns.
type found struct {
	head record.Record
	l    []record.Record
	good int
	e    api.Errno
}

func (f found) String() string {
	return fmt.Sprintf("%+v, %d records %+v, %d bytes, %d", f.head, len(f.l), f.l[max(0, len(f.l)-2):], f.good, f.e)
}

func (f found) same(g found) bool {
	return f.head == g.head && slices.Equal(f.l, g.l) && f.good == g.good && f.e == g.e
}

func scan(s string, n uint64) found {
	h, l, good, e := segment.Scan(s, n)
	return found{h, l, good, e}
}

// foundIn is what must be found where these records were read, and then e.
func foundIn(e api.Errno, all ...record.Record) found {
	if len(all) == 0 {
		return found{e: e}
	}
	return found{all[0], all[1:], len(bytesOf(all...)), e}
}

// scanned is P16.3 word by word.
func scanned(s string, n uint64) found {
	var all []record.Record
	for at := 0; ; {
		if at > 0 && at == len(s) {
			return foundIn(api.OK, all...)
		}
		payload, used, e := firstFrame(s[at:])
		if e != api.OK {
			return foundIn(e, all...)
		}
		r, e := taken(payload)
		if e == api.OK {
			e = following(all, r, n)
		}
		if e != api.OK {
			return foundIn(e, all...)
		}
		all = append(all, r)
		at += used
	}
}

// scanTo holds all four results of Scan, and the model, so that it is tested along with it.
func scanTo(t *testing.T, s string, n uint64, want found) {
	t.Helper()
	if got := scan(s, n); !got.same(want) {
		t.Errorf("Scan of %d bytes % .60x with %d:\n%v, not\n%v", len(s), s, n, got, want)
	}
	if model := scanned(s, n); !model.same(want) {
		t.Errorf("the model of %d bytes % .60x with %d:\n%v, not\n%v", len(s), s, n, model, want)
	}
}

// stops holds that Scan, with the number of the first record, reads these records and not the one behind them, for which it returns e; whatever follows.
func stops(t *testing.T, e api.Errno, not record.Record, all ...record.Record) {
	t.Helper()
	s := bytesOf(all...) + bytesOf(not)
	for _, more := range []string{"", "\x00", bytesOf(not), strings.Repeat("\xff", 100)} {
		scanTo(t, s+more, all[0].Segment, foundIn(e, all...))
	}
}

// reads holds that Scan, with the number of the first record, reads these records.
func reads(t *testing.T, all ...record.Record) {
	t.Helper()
	scanTo(t, bytesOf(all...), all[0].Segment, foundIn(api.OK, all...))
}

// notValid are records of each kind, and of none, that are not valid.
func notValid() []record.Record {
	o, s, h := own(5, 7), sure(5, 7, 9), head(1, 5, 0)
	l := []record.Record{{}, {Kind: 4}, {Kind: -1}, {Kind: 256}, {Kind: math.MinInt}}
	for _, r := range []record.Record{o, s, h} {
		for _, kind := range []int{0, 4, -1, r.Kind + 256, r.Kind - 256, r.Kind + 1<<32} {
			other := r
			other.Kind = kind
			l = append(l, other)
		}
	}
	spoil := func(r record.Record, by func(r *record.Record)) {
		by(&r)
		l = append(l, r)
	}
	for _, r := range []record.Record{o, s, h} {
		spoil(r, func(r *record.Record) { r.Own = 64 })
		spoil(r, func(r *record.Record) { r.Pair[0] = 64 })
		spoil(r, func(r *record.Record) { r.Pair[1] = 255 })
		spoil(r, func(r *record.Record) { r.Player = 2 })
	}
	for _, r := range []record.Record{o, s} {
		spoil(r, func(r *record.Record) { r.Segment = 1 })
		spoil(r, func(r *record.Record) { r.First = last })
		spoil(r, func(r *record.Record) { r.Epoch = 1 })
		spoil(r, func(r *record.Record) { r.Player = 1 })
	}
	spoil(o, func(r *record.Record) { r.Pair = api.Pair{7, 9} })
	spoil(s, func(r *record.Record) { r.Own = 7 })
	spoil(h, func(r *record.Record) { r.Frame = 5 })
	spoil(h, func(r *record.Record) { r.Own = 1 })
	return l
}

// sequence is a Head and m records that continue and agree, or fewer where no frame is left.
func sequence(r *rand.Rand, h record.Record, m int) []record.Record {
	all := []record.Record{h}
	var inputs []api.Input // all own ones, from First on
	var count uint64       // from First on
	for len(all) <= m {
		owned := uint64(len(inputs))
		mayOwn := owned < count+12 && h.First+owned != last
		switch {
		case mayOwn && (owned == count || r.Intn(2) == 0):
			inputs = append(inputs, api.Input(r.Intn(64)))
			all = append(all, own(h.First+owned, inputs[owned]))
		case count < owned:
			q := api.Pair{api.Input(r.Intn(64)), api.Input(r.Intn(64))}
			q[h.Player] = inputs[count]
			all = append(all, sure(h.First+count, q[0], q[1]))
			count++
		default:
			return all
		}
	}
	return all
}

// anyHead has a First that is any, small, or near the last frame.
func anyHead(r *rand.Rand) record.Record {
	first := r.Uint64() >> r.Intn(64)
	if r.Intn(4) == 0 {
		first = last - uint64(r.Intn(30))
	}
	return record.Record{Kind: 3, Segment: r.Uint64() >> r.Intn(64), First: first, Epoch: r.Uint64(), Player: uint8(r.Intn(2))}
}

// on is a power that stays on, over a disk of that quota.
func on(quota int) *power.Power { return power.New(disk.New(quota), -1, nil) }

// equal holds one value to another one.
func equal[T comparable](t *testing.T, what string, got, want T) {
	t.Helper()
	if got != want {
		t.Errorf("%s: %#v, not %#v", what, got, want)
	}
}

// onDisk holds that the file of a number is the only one, its bytes, and how many of them are synced.
func onDisk(t *testing.T, what string, d *disk.Disk, n uint64, want string, synced int) {
	t.Helper()
	equal(t, what+": the files", strings.Join(d.List(), " "), names.Segment(n))
	s, _ := d.Read(names.Segment(n))
	equal(t, what+": the bytes", s, want)
	equal(t, what+": synced", d.Synced(names.Segment(n)), synced)
}

// untouched holds that nothing was asked of a power without files.
func untouched(t *testing.T, what string, p *power.Power) {
	t.Helper()
	equal(t, what+": writes", p.Writes(), 0)
	equal(t, what+": files", len(p.List()), 0)
	equal(t, what+": off", p.Down(), false)
}

// TestExamples holds the chapter's table.
func TestExamples(t *testing.T) {
	h, two, o5, s5 := head(1, 5, 0), head(2, 5, 0), own(5, 7), sure(5, 7, 9)
	whole := bytesOf(h, o5, s5)
	for i, x := range []struct {
		s    string
		want found
	}{
		{whole, found{h, []record.Record{o5, s5}, 32 + 16 + 17, api.OK}},
		{whole[:len(whole)-1], found{h, []record.Record{o5}, 32 + 16, api.ErrTorn}},
		{bytesOf(o5), found{e: api.ErrOrder}},
		{bytesOf(two), found{e: api.ErrOrder}},
		{bytesOf(h, h), found{h, nil, 32, api.ErrOrder}},
		{bytesOf(h, s5), found{h, nil, 32, api.ErrOrder}},
		{bytesOf(h, own(6, 7)), found{h, nil, 32, api.ErrOrder}},
		{bytesOf(h, o5, o5), found{h, []record.Record{o5}, 48, api.ErrOrder}},
		{bytesOf(h, o5, sure(5, 8, 9)), found{h, []record.Record{o5}, 48, api.ErrClash}},
		{"", found{e: api.ErrTorn}},
	} {
		t.Run(fmt.Sprint(i), func(t *testing.T) { scanTo(t, x.s, 1, x.want) })
	}
}

// TestBegin: P16.1: the file of the Head's number has the bytes of all records, synced, after three writes.
func TestBegin(t *testing.T) {
	r := rand.New(rand.NewSource(1))
	for i := range 300 {
		h := anyHead(r)
		h.Segment = []uint64{0, 1, 2, 258, last, r.Uint64()}[i%6]
		all := sequence(r, h, i%60)
		p := on(api.MaxQuota)
		equal(t, "Begin", segment.Begin(p, h, all[1:]), api.OK)
		onDisk(t, "Begin", p.Disk(), h.Segment, bytesOf(all...), len(bytesOf(all...)))
		equal(t, "writes", p.Writes(), 3)
	}
}

// TestBeginAsksNoOrder: P16.1: records that are valid are written as they stand, whether they continue and agree or not.
func TestBeginAsksNoOrder(t *testing.T) {
	for _, l := range [][]record.Record{
		nil, {}, {own(9, 1)}, {sure(3, 1, 2)}, {own(last, 63)}, {sure(last, 63, 63)}, {own(5, 7), own(5, 7)}, {sure(5, 8, 9), own(5, 7)},
	} {
		h := head(last, last, 1)
		p := on(1000)
		equal(t, "Begin", segment.Begin(p, h, l), api.OK)
		s := bytesOf(append([]record.Record{h}, l...)...)
		onDisk(t, "Begin", p.Disk(), last, s, len(s))
	}
}

// refusesToBegin holds that Begin returns ErrForm, and that nothing is asked of the power: not even whether it is on, or there.
func refusesToBegin(t *testing.T, h record.Record, l []record.Record) {
	t.Helper()
	what := fmt.Sprintf("Begin of %+v, %+v", h, l)
	for _, p := range []*power.Power{on(1000), power.New(disk.New(1000), 0, []int{1}), power.New(disk.New(1), 1, nil)} {
		equal(t, what, segment.Begin(p, h, l), api.ErrForm)
		untouched(t, what, p)
	}
	off := on(1000)
	off.Blow()
	for _, p := range []*power.Power{nil, {}, off} {
		equal(t, what, segment.Begin(p, h, l), api.ErrForm)
	}
}

// TestBeginOfNoHead: P16.1: an h that is no Head, or that is not valid, with nothing behind it, and with records.
func TestBeginOfNoHead(t *testing.T) {
	for _, h := range append(notValid(), own(5, 7), sure(5, 7, 9), own(0, 0), sure(0, 0, 0)) {
		refusesToBegin(t, h, nil)
		refusesToBegin(t, h, []record.Record{own(5, 7), sure(5, 7, 9)})
		refusesToBegin(t, h, []record.Record{head(1, 5, 0)})
		refusesToBegin(t, h, []record.Record{{}})
	}
}

// TestBeginWithWrongRecords: P16.1: a record of l that is not valid, or is a Head, at each place.
func TestBeginWithWrongRecords(t *testing.T) {
	good := []record.Record{own(5, 7), sure(5, 7, 9), own(6, 1), own(7, 2)}
	for _, wrong := range append(notValid(), head(1, 5, 0), head(2, 0, 1), head(0, 0, 0)) {
		for at := range len(good) + 1 {
			refusesToBegin(t, head(1, 5, 0), slices.Insert(slices.Clone(good), at, wrong))
		}
		refusesToBegin(t, head(1, 5, 0), []record.Record{wrong})
	}
}

// TestBeginThere: P16.1: ErrThere of Create is the only thing that is done, and the file stays; other files do not matter.
func TestBeginThere(t *testing.T) {
	p := on(1000)
	p.Create(names.Segment(1))
	p.Append(names.Segment(1), "xyz")
	equal(t, "Begin", segment.Begin(p, head(1, 5, 0), []record.Record{own(5, 7)}), api.ErrThere)
	onDisk(t, "Begin", p.Disk(), 1, "xyz", 0)
	equal(t, "writes", p.Writes(), 3)
	equal(t, "Begin of another one", segment.Begin(p, head(2, 5, 0), nil), api.OK)
	equal(t, "Begin of it again", segment.Begin(p, head(2, 5, 0), nil), api.ErrThere)
	equal(t, "writes", p.Writes(), 7)
}

// TestBeginFullOfBytes: P16.1: where the quota is one byte below what is needed, a file without bytes is left, and Sync isn't called.
func TestBeginFullOfBytes(t *testing.T) {
	h, l := head(1, 5, 0), []record.Record{own(5, 7), sure(5, 7, 9)}
	s := bytesOf(h, l[0], l[1])
	for quota := 1; quota <= len(s)+1; quota++ {
		p := on(quota)
		if quota >= len(s) {
			equal(t, "Begin", segment.Begin(p, h, l), api.OK)
			onDisk(t, "Begin", p.Disk(), 1, s, len(s))
			continue
		}
		equal(t, "Begin", segment.Begin(p, h, l), api.ErrFull)
		onDisk(t, "Begin", p.Disk(), 1, "", 0)
		equal(t, "writes", p.Writes(), 2)
	}
}

// TestBeginFullFile: P16.1: 65536 bytes are those of a Head, and of 4094 own inputs, without a byte left.
func TestBeginFullFile(t *testing.T) {
	h := head(1, 5, 0)
	l := make([]record.Record, (api.MaxFile-32)/16+1)
	for i := range l {
		l[i] = own(uint64(i), api.Input(i%64))
	}
	p := on(api.MaxQuota)
	equal(t, "Begin", segment.Begin(p, h, l), api.ErrFull)
	onDisk(t, "Begin", p.Disk(), 1, "", 0)
	equal(t, "writes", p.Writes(), 2)
	l = l[1:]
	p = on(api.MaxQuota)
	equal(t, "Begin", segment.Begin(p, h, l), api.OK)
	onDisk(t, "Begin", p.Disk(), 1, bytesOf(append([]record.Record{h}, l...)...), api.MaxFile)
}

// TestBeginFullOfFiles: P16.1: with 64 files, Create returns ErrFull, and nothing else is done.
func TestBeginFullOfFiles(t *testing.T) {
	p := on(1000)
	for i := range api.MaxFiles {
		p.Create(fmt.Sprint(i))
	}
	equal(t, "Begin", segment.Begin(p, head(1, 5, 0), nil), api.ErrFull)
	equal(t, "writes", p.Writes(), api.MaxFiles+1)
	equal(t, "files", len(p.List()), api.MaxFiles)
}

// TestNoPower: P16.1 and P16.2: nil, and a power that New did not return; one that is off.
func TestNoPower(t *testing.T) {
	off := on(1000)
	segment.Begin(off, head(1, 5, 0), nil)
	off.Blow()
	for i, p := range []*power.Power{nil, {}, off} {
		e := api.ErrNil
		if i == 2 {
			e = api.ErrDown
		}
		equal(t, "Begin", segment.Begin(p, head(2, 5, 0), []record.Record{own(5, 7)}), e)
		equal(t, "Append", segment.Append(p, 1, own(5, 7)), e)
	}
	onDisk(t, "off", off.Disk(), 1, bytesOf(head(1, 5, 0)), 32)
	equal(t, "writes", off.Writes(), 3)
}

// TestBeginPowerOff: P16.1: the power goes off at each of the three calls, with that call done and not done: all bytes are one Append, so of them a first part is there.
func TestBeginPowerOff(t *testing.T) {
	h, l := head(3, 5, 0), []record.Record{own(5, 7), sure(5, 7, 9), own(6, 1)}
	s := bytesOf(append([]record.Record{h}, l...)...)
	for keep := range 2*len(s) + 4 {
		done := keep%2 == 1
		for fuse := range 5 {
			what := fmt.Sprintf("fuse %d, keep %d", fuse, keep)
			p := power.New(disk.New(1000), fuse, []int{keep})
			e := segment.Begin(p, h, l)
			kept := keep % (len(s) + 1)
			switch {
			case fuse > 2:
				equal(t, what, e, api.OK)
				onDisk(t, what, p.Disk(), 3, s, len(s))
				equal(t, what+": writes", p.Writes(), 3)
				continue
			case fuse == 0 && !done:
				equal(t, what+": files", len(p.Disk().List()), 0)
			case fuse == 0 || fuse == 1 && !done:
				onDisk(t, what, p.Disk(), 3, "", 0)
			case fuse == 2 && done:
				onDisk(t, what, p.Disk(), 3, s, len(s))
			default:
				onDisk(t, what, p.Disk(), 3, s[:kept], kept)
			}
			equal(t, what, e, api.ErrDown)
			equal(t, what+": writes", p.Writes(), fuse+1)
		}
	}
}

// TestAppend: P16.2: valid records, whether they continue or not, are appended to the tail of the file of that number alone.
func TestAppend(t *testing.T) {
	p := on(api.MaxQuota)
	want := map[uint64]string{}
	for _, n := range []uint64{0, 1, 258, last} {
		equal(t, "Begin", segment.Begin(p, head(n, 5, 0), nil), api.OK)
		want[n] = bytesOf(head(n, 5, 0))
	}
	r := rand.New(rand.NewSource(2))
	for i := range 400 {
		n := []uint64{0, 1, 258, last}[r.Intn(4)]
		one := own(r.Uint64()>>r.Intn(64), api.Input(r.Intn(64)))
		if i%2 == 0 {
			one = sure(one.Frame, one.Own, api.Input(r.Intn(64)))
		}
		before := p.Writes()
		equal(t, "Append", segment.Append(p, n, one), api.OK)
		equal(t, "writes of Append", p.Writes()-before, 1)
		want[n] += bytesOf(one)
		for n, s := range want {
			got, _ := p.Read(names.Segment(n))
			equal(t, "the bytes", got, s)
			equal(t, "synced", p.Disk().Synced(names.Segment(n)), 32)
		}
	}
}

// TestAppendRefuses: P16.2: a record that is not valid, and a Head, without asking anything of the power.
func TestAppendRefuses(t *testing.T) {
	off := on(1000)
	off.Blow()
	for _, r := range append(notValid(), head(1, 5, 0), head(2, 0, 1), head(0, 0, 0)) {
		what := fmt.Sprintf("Append of %+v", r)
		p := power.New(disk.New(1000), 0, []int{1})
		equal(t, what, segment.Append(p, 1, r), api.ErrForm)
		untouched(t, what, p)
		for _, p := range []*power.Power{nil, {}, off} {
			equal(t, what, segment.Append(p, 1, r), api.ErrForm)
		}
	}
}

// TestAppendErrors: P16.2: a file that is not there, a disk with one byte too few, and a power that goes off at it.
func TestAppendErrors(t *testing.T) {
	for i, r := range []record.Record{own(5, 7), sure(5, 7, 9)} {
		size := 16 + i
		p := on(32 + size)
		equal(t, "Append to no file", segment.Append(p, 1, r), api.ErrNone)
		segment.Begin(p, head(1, 5, 0), nil)
		equal(t, "Append to another one", segment.Append(p, 2, r), api.ErrNone)
		equal(t, "Append that just fits", segment.Append(p, 1, r), api.OK)
		onDisk(t, "Append", p.Disk(), 1, bytesOf(head(1, 5, 0), r), 32)

		p = on(32 + size - 1)
		segment.Begin(p, head(1, 5, 0), nil)
		equal(t, "Append that doesn't fit", segment.Append(p, 1, r), api.ErrFull)
		onDisk(t, "Append", p.Disk(), 1, bytesOf(head(1, 5, 0)), 32)

		for keep := range 50 {
			p = power.New(disk.New(1000), 3, []int{keep})
			segment.Begin(p, head(1, 5, 0), nil)
			equal(t, "Append at the fuse", segment.Append(p, 1, r), api.ErrDown)
			kept := 32
			if keep%2 == 1 {
				kept += keep % (size + 1)
			}
			onDisk(t, "Append at the fuse", p.Disk(), 1, bytesOf(head(1, 5, 0), r)[:kept], kept)
			equal(t, "Append after it", segment.Append(p, 1, r), api.ErrDown)
			equal(t, "writes", p.Writes(), 4)
		}
	}
}

// TestScanBeginnings: P16.3: the empty string, and each beginning of a Head, of one own input, and of one confirmed pair behind what they need.
func TestScanBeginnings(t *testing.T) {
	h, o, q := head(1, 5, 1), own(5, 7), sure(5, 9, 7)
	for n := range 32 {
		scanTo(t, bytesOf(h)[:n], 1, foundIn(api.ErrTorn))
	}
	scanTo(t, bytesOf(h), 1, foundIn(api.OK, h))
	for n := 1; n < 16; n++ {
		scanTo(t, bytesOf(h)+bytesOf(o)[:n], 1, foundIn(api.ErrTorn, h))
	}
	for n := 1; n < 17; n++ {
		scanTo(t, bytesOf(h, o)+bytesOf(q)[:n], 1, foundIn(api.ErrTorn, h, o))
	}
	scanTo(t, bytesOf(h, o, q), 1, foundIn(api.OK, h, o, q))
}

// TestScanTurned: P16.3: one byte as each other one, in each place: the records ahead of it are there, and no more.
func TestScanTurned(t *testing.T) {
	all := []record.Record{head(1, 5, 0), own(5, 7), own(6, 8), sure(5, 7, 9)}
	s := bytesOf(all...)
	for i := range len(s) {
		for b := range 256 {
			if byte(b) == s[i] {
				continue
			}
			want := scanned(s[:i]+string([]byte{byte(b)})+s[i+1:], 1)
			scanTo(t, s[:i]+string([]byte{byte(b)})+s[i+1:], 1, want)
			whole := scanned(s[:i], 1)
			if want.e == api.OK || want.good != whole.good || !slices.Equal(want.l, whole.l) {
				t.Errorf("byte %d as %d: %v", i, b, want)
			}
		}
	}
	bad := []byte(s)
	bad[len(s)-1] ^= 1
	scanTo(t, string(bad), 1, foundIn(api.ErrSum, all[:3]...))
}

// TestScanPayloads: P16.3: frames whose payload is no record, as the first one and as a later one: the error of record.Take.
func TestScanPayloads(t *testing.T) {
	h, o, q := head(1, 5, 0), own(5, 7), sure(5, 7, 9)
	wrong := map[string]api.Errno{
		"": api.ErrTorn, "\x00": api.ErrForm, "\x04": api.ErrForm, "\x01": api.ErrTorn, "\x02": api.ErrTorn, "\x03": api.ErrTorn,
		strings.Repeat("x", 4096): api.ErrForm, "\x01" + strings.Repeat("\x00", 4095): api.ErrForm,
		encoded(own(5, 64)): api.ErrForm, encoded(sure(5, 7, 64)): api.ErrForm, encoded(head(1, 5, 2)): api.ErrForm,
	}
	for _, r := range []record.Record{h, o, q} {
		s := encoded(r)
		wrong[s[:len(s)-1]], wrong[s+"\x00"], wrong[s+s] = api.ErrTorn, api.ErrForm, api.ErrForm
	}
	for payload, e := range wrong {
		for _, all := range [][]record.Record{nil, {h}, {h, o}, {h, o, q}} {
			for _, more := range []string{"", "\x00", bytesOf(h), bytesOf(o), bytesOf(q)} {
				scanTo(t, bytesOf(all...)+framed(payload)+more, 1, foundIn(e, all...))
			}
		}
	}
}

// TestScanFrames: P16.3: the errors of frame.Next, as the first one and as a later one.
func TestScanFrames(t *testing.T) {
	h, o, q := head(1, 5, 0), own(5, 7), sure(5, 7, 9)
	for _, all := range [][]record.Record{nil, {h}, {h, o}, {h, o, q}} {
		s := bytesOf(all...)
		scanTo(t, s+"\x01\x10\x00\x00\x00\x00", 1, foundIn(api.ErrLong, all...))
		scanTo(t, s+"\x01\x10\x00\x00\x00", 1, foundIn(api.ErrTorn, all...))
		scanTo(t, s+"\xff\xff\xff\xff\xff\xff"+strings.Repeat("\xff", 70000), 1, foundIn(api.ErrLong, all...))
		scanTo(t, s+"\x00\x10\x00\x00\x00\x00", 1, foundIn(api.ErrTorn, all...))
		scanTo(t, s+"\x00\x10\x00\x00\x00\x00"+strings.Repeat("\x01", 4096), 1, foundIn(api.ErrSum, all...))
		scanTo(t, s+"\x00\x00\x00\x00\x00\x00", 1, foundIn(api.ErrSum, all...))
		scanTo(t, s+"\x00", 1, foundIn(api.ErrTorn, all...))
	}
}

// TestScanFirstError: P16.3: where more than one error applies, that of the frame is ahead of that of the record, that ahead of ErrOrder, and that ahead of ErrClash.
func TestScanFirstError(t *testing.T) {
	h, o := head(1, 5, 0), own(5, 7)
	whole := bytesOf(h, o)
	for _, r := range []record.Record{own(9, 64), sure(9, 64, 64), head(2, 5, 2), own(5, 64), sure(5, 64, 0)} {
		for i, all := range [][]record.Record{nil, {h}, {h, o}} {
			ahead, s := whole[:[]int{0, 32, 48}[i]], bytesOf(r)
			scanTo(t, ahead+s, 1, foundIn(api.ErrForm, all...))
			scanTo(t, ahead+s[:len(s)-1], 1, foundIn(api.ErrTorn, all...))
			scanTo(t, ahead+s[:len(s)-1]+"\x7f", 1, foundIn(api.ErrSum, all...))
			scanTo(t, ahead+s[:1]+"\x20"+s[2:], 1, foundIn(api.ErrLong, all...))
		}
	}
	stops(t, api.ErrOrder, sure(4, 8, 9), h, o)
	stops(t, api.ErrOrder, sure(6, 8, 9), h, o)
	stops(t, api.ErrOrder, sure(5, 8, 9), h)
	stops(t, api.ErrOrder, sure(6, 8, 9), h, o, sure(5, 7, 9))
	stops(t, api.ErrOrder, sure(5, 8, 9), h, o, sure(5, 7, 9))
}

// TestScanFirstRecord: P16.3: no Head, and Heads of other numbers; the Head that is asked for, whatever else it has.
func TestScanFirstRecord(t *testing.T) {
	all := []uint64{0, 1, 2, 255, 256, 1 << 32, 1 << 63, last - 1, last}
	for _, n := range all {
		for _, other := range all {
			h := head(other, n, 1)
			if n == other {
				scanTo(t, bytesOf(h), n, foundIn(api.OK, h))
				continue
			}
			scanTo(t, bytesOf(h), n, foundIn(api.ErrOrder))
			scanTo(t, bytesOf(h, own(n, 1)), n, foundIn(api.ErrOrder))
			scanTo(t, bytesOf(h, head(n, n, 1)), n, foundIn(api.ErrOrder))
		}
		for _, r := range []record.Record{own(0, 0), own(n, 7), sure(0, 0, 0), sure(n, 7, 7)} {
			scanTo(t, bytesOf(r), n, foundIn(api.ErrOrder))
			scanTo(t, bytesOf(r, head(n, 0, 0)), n, foundIn(api.ErrOrder))
		}
	}
}

// TestScanSecondHead: P16.3: a Head that is not the first record, the same one or another one, behind each number of records.
func TestScanSecondHead(t *testing.T) {
	all := sequence(rand.New(rand.NewSource(3)), head(1, 5, 0), 40)
	for n := 1; n <= len(all); n++ {
		for _, h := range []record.Record{all[0], head(2, 5, 0), head(1, 6, 0), head(1, 5, 1), head(0, 0, 0)} {
			stops(t, api.ErrOrder, h, all[:n]...)
		}
	}
}

// TestScanOwn: P16.3: an own input of the frame below and above the one that is owned, and of others, at the beginning and later.
func TestScanOwn(t *testing.T) {
	for _, first := range []uint64{0, 1, 5, 12, 1 << 32, last - 20} {
		h := head(1, first, 0)
		all := []record.Record{h}
		for n := range uint64(12) {
			owned := first + n
			for _, f := range []uint64{owned - 1, owned + 1, owned - 12, owned + 12, owned + 256, owned + 1<<32, owned ^ 1<<63, owned - 2, owned + 2} {
				stops(t, api.ErrOrder, own(f, 7), all...)
			}
			all = append(all, own(owned, api.Input(n)))
			reads(t, all...)
		}
	}
}

// TestScanAhead: P16.3: the twelfth own input ahead of the count, and not the thirteenth; after a pair, one more.
func TestScanAhead(t *testing.T) {
	for _, first := range []uint64{0, 5, 1000, last - 100} {
		all := []record.Record{head(1, first, 0)}
		for n := range uint64(12) {
			all = append(all, own(first+n, api.Input(n)))
		}
		for n := range uint64(50) {
			reads(t, all...)
			stops(t, api.ErrOrder, own(first+n+12, 1), all...)
			all = append(all, sure(first+n, api.Input(n), 63))
			stops(t, api.ErrOrder, own(first+n+13, 1), all...)
			all = append(all, own(first+n+12, api.Input(n+12)))
		}
	}
}

// TestScanLastFrames: P16.3: the frame 2^64 - 1 is nobody's, also where it is the one that is owned, and where the Head begins with it; nor does 0 come after it.
func TestScanLastFrames(t *testing.T) {
	for back := range uint64(15) {
		first := last - back
		all := []record.Record{head(1, first, 0)}
		for n := range back {
			if n == 12 {
				for m := range n {
					all = append(all, sure(first+m, 7, 9))
				}
			}
			all = append(all, own(first+n, 7))
			reads(t, all...)
		}
		stops(t, api.ErrOrder, own(last, 7), all...)
		stops(t, api.ErrOrder, own(0, 7), all...)
		count := first
		if back > 12 {
			count += 12
		}
		for ; count != last; count++ {
			all = append(all, sure(count, 7, 9))
			reads(t, all...)
		}
		for _, r := range []record.Record{own(last, 7), own(0, 7), own(first, 7), sure(last, 7, 9), sure(0, 7, 9), sure(last, 0, 0)} {
			stops(t, api.ErrOrder, r, all...)
		}
	}
}

// TestScanSure: P16.3: a pair of the frame below and above the count, and of one for which nothing is owned.
func TestScanSure(t *testing.T) {
	for _, first := range []uint64{0, 1, 5, 1 << 32, last - 40} {
		all := []record.Record{head(1, first, 0)}
		for n := range uint64(10) {
			count := first + 3*n
			stops(t, api.ErrOrder, sure(count, 7, 7), all...)
			stops(t, api.ErrOrder, sure(count, 0, 0), all...)
			all = append(all, own(count, 7), own(count+1, 7), own(count+2, 7))
			for _, f := range []uint64{count - 1, count + 1, count + 2, count + 3, count - 12, count + 12, count + 256, count ^ 1<<63} {
				stops(t, api.ErrOrder, sure(f, 7, 7), all...)
			}
			// All three are confirmed, so that nothing is owned from there on.
			all = append(all, sure(count, 7, 1), sure(count+1, 7, 2), sure(count+2, 7, 3))
			reads(t, all...)
		}
	}
}

// TestScanAgrees: P16.3: every two inputs, for both players: it is the player's own one that must be the same, whatever the other one's is.
func TestScanAgrees(t *testing.T) {
	for player := range uint8(2) {
		h := head(1, 5, player)
		for mine := range api.Input(64) {
			for other := range api.Input(64) {
				q := sure(5, mine, other)
				for in := range api.Input(64) {
					all := []record.Record{h, own(5, in)}
					if q.Pair[player] == in {
						reads(t, append(all, q)...)
					} else if in%16 == mine%16 {
						scanTo(t, bytesOf(h, all[1], q), 1, foundIn(api.ErrClash, all...))
					}
				}
			}
		}
	}
}

// TestScanAgreesLater: P16.3: the own input of the same frame counts, and not that of another one, with each number of inputs ahead.
func TestScanAgreesLater(t *testing.T) {
	for player := range uint8(2) {
		for ahead := 1; ahead <= 12; ahead++ {
			all := []record.Record{head(1, 1000, player)}
			in := func(n int) api.Input { return api.Input(n * n % 61) }
			pair := func(mine api.Input) api.Pair {
				q := api.Pair{62, 62}
				q[player] = mine
				return q
			}
			for n := range ahead {
				all = append(all, own(1000+uint64(n), in(n)))
			}
			for n := range 26 {
				for other := max(0, n-13); other < n+ahead; other++ {
					if q := pair(in(other)); in(other) != in(n) {
						s := bytesOf(all...) + bytesOf(sure(1000+uint64(n), q[0], q[1]))
						scanTo(t, s, 1, foundIn(api.ErrClash, all...))
					}
				}
				q := pair(in(n))
				all = append(all, sure(1000+uint64(n), q[0], q[1]), own(1000+uint64(n+ahead), in(n+ahead)))
				reads(t, all...)
			}
		}
	}
}

// TestCutAnywhere: P16.4: many records that continue and agree, whole, and cut at each place.
func TestCutAnywhere(t *testing.T) {
	r := rand.New(rand.NewSource(4))
	for range 40 {
		all := sequence(r, anyHead(r), r.Intn(100))
		reads(t, all...)
		s := bytesOf(all...)
		whole := 0 // records
		for n := range len(s) {
			for len(bytesOf(all[:whole+1]...)) <= n {
				whole++
			}
			want := foundIn(api.ErrTorn, all[:whole]...)
			if whole > 0 && want.good == n {
				want.e = api.OK
			}
			if got := scan(s[:n], all[0].Segment); !got.same(want) {
				t.Fatalf("the first %d of %d bytes: %v, not %v", n, len(s), got, want)
			}
		}
	}
}

// TestLongFile: P16.4: as many records as a file can have, and more than that.
func TestLongFile(t *testing.T) {
	r := rand.New(rand.NewSource(5))
	for _, m := range []int{4000, 100000} {
		all := sequence(r, head(1, 5, 1), m)
		s := bytesOf(all...)
		if got, want := scan(s, 1), foundIn(api.OK, all...); !got.same(want) {
			t.Errorf("%d records: %v, not %v", m, got, want)
		}
		if got, want := scan(s[:len(s)-1], 1), foundIn(api.ErrTorn, all[:m]...); !got.same(want) {
			t.Errorf("%d records and a torn one: %v, not %v", m-1, got, want)
		}
	}
}

// holdsTogether is P16.5 word by word.
func holdsTogether(t *testing.T, s string, n uint64, f found) {
	t.Helper()
	if f.head == (record.Record{}) {
		if f.e == api.OK || len(f.l) > 0 || f.good != 0 {
			t.Errorf("no Head, but %v", f)
		}
		return
	}
	if f.head.Kind != 3 || f.head.Segment != n || !strings.HasPrefix(s, bytesOf(append([]record.Record{f.head}, f.l...)...)) || f.good != len(bytesOf(append([]record.Record{f.head}, f.l...)...)) {
		t.Errorf("other bytes than those of %v", f)
	}
	if (f.e == api.OK) != (f.good == len(s)) {
		t.Errorf("%d bytes: %v", len(s), f)
	}
	next, inputs := f.head.First, map[uint64]api.Input{}
	for _, r := range f.l {
		if r.Kind == 1 {
			inputs[r.Frame] = r.Own
			continue
		}
		mine, there := inputs[r.Frame]
		if r.Kind != 2 || r.Frame != next || !there || mine != r.Pair[f.head.Player] {
			t.Errorf("%+v does not continue, or agree", r)
		}
		next++
	}
}

// nearly is a sequence in which some records were left out, doubled, moved, or changed by a little.
func nearly(r *rand.Rand, h record.Record) []record.Record {
	all := sequence(r, h, r.Intn(60))
	for range r.Intn(3) {
		i := r.Intn(len(all))
		switch one := &all[i]; r.Intn(7) {
		case 0:
			if len(all) > 1 {
				all = slices.Delete(all, i, i+1)
			}
		case 1:
			all = slices.Insert(all, i, *one)
		case 2:
			j := r.Intn(len(all))
			all[i], all[j] = all[j], all[i]
		case 3:
			one.Frame += uint64(r.Intn(27) - 13)
		case 4:
			one.Own ^= 1 << r.Intn(7)
		case 5:
			one.Pair[r.Intn(2)] ^= 1 << r.Intn(7)
		case 6:
			one.Kind = r.Intn(5)
		}
	}
	return all
}

// TestScanNearly: P16.3 and P16.5: records of which some are out of place, with a byte turned now and then.
func TestScanNearly(t *testing.T) {
	r := rand.New(rand.NewSource(6))
	errors := map[api.Errno]int{}
	for range 20000 {
		h := anyHead(r)
		s := bytesOf(nearly(r, h)...)
		if r.Intn(8) == 0 {
			b := []byte(s)
			b[r.Intn(len(b))] ^= 1 << r.Intn(8)
			s = string(b)
		}
		if r.Intn(8) == 0 {
			s = s[:r.Intn(len(s)+1)]
		}
		want := scanned(s, h.Segment)
		scanTo(t, s, h.Segment, want)
		holdsTogether(t, s, h.Segment, scan(s, h.Segment))
		errors[want.e]++
	}
	for _, e := range []api.Errno{api.OK, api.ErrForm, api.ErrTorn, api.ErrSum, api.ErrOrder, api.ErrClash, api.ErrLong} {
		if errors[e] < 20 {
			t.Errorf("the error %d only %d times", e, errors[e])
		}
	}
}

// TestScanAnyBytes: P16.3 and P16.5: any bytes, alone and behind records, and any bytes as payloads.
func TestScanAnyBytes(t *testing.T) {
	r := rand.New(rand.NewSource(7))
	for range 5000 {
		h := anyHead(r)
		b := make([]byte, r.Intn(80))
		r.Read(b)
		for i := range b {
			b[i] >>= r.Intn(9)
		}
		for _, more := range []string{string(b), framed(string(b))} {
			for _, s := range []string{more, bytesOf(sequence(r, h, r.Intn(10))...) + more} {
				scanTo(t, s, h.Segment, scanned(s, h.Segment))
				holdsTogether(t, s, h.Segment, scan(s, h.Segment))
			}
		}
	}
}

// TestOnceMore: DOC.md's rules: what Scan returned is new memory, and what it answers hangs on its arguments alone.
func TestOnceMore(t *testing.T) {
	all := sequence(rand.New(rand.NewSource(8)), head(1, 5, 0), 30)
	s := bytesOf(all...)
	first := scan(s, 1)
	clear(first.l[:cap(first.l)])
	scanTo(t, s, 1, foundIn(api.OK, all...))
	scanTo(t, s, 2, foundIn(api.ErrOrder))
	scanTo(t, s, 1, foundIn(api.OK, all...))
}

// TestArgumentsStay: DOC.md's rules: Begin neither changes nor keeps its list, also where it has room behind it.
func TestArgumentsStay(t *testing.T) {
	room := []record.Record{own(5, 7), sure(5, 7, 9), own(6, 1), own(7, 2)}
	before := slices.Clone(room)
	p := on(1000)
	equal(t, "Begin", segment.Begin(p, head(1, 5, 0), room[:2]), api.OK)
	equal(t, "the list is the same", slices.Equal(room, before), true)
	clear(room)
	equal(t, "Append", segment.Append(p, 1, own(6, 3)), api.OK)
	s, _ := p.Read(names.Segment(1))
	scanTo(t, s, 1, foundIn(api.OK, head(1, 5, 0), before[0], before[1], own(6, 3)))
}

// run is a segment that is begun, appended to and synced, until an error: the records that were appended, or were at the fuse, and how many of them are sure to be synced.
func run(p *power.Power, all []record.Record, begun, every int) (appended, synced int) {
	if segment.Begin(p, all[0], all[1:begun]) != api.OK {
		return begun, 0
	}
	synced = begun
	for i := begun; i < len(all); i++ {
		if segment.Append(p, all[0].Segment, all[i]) != api.OK {
			return i + 1, synced
		}
		if (i-begun)%every == 0 {
			if p.Sync(names.Segment(all[0].Segment)) != api.OK {
				return i + 1, synced
			}
			synced = i + 1
		}
	}
	return len(all), synced
}

// TestPowerOff: P16.6: the power goes off at each write, with several numbers of kept bytes: what was synced is found, and behind it nothing but what was appended.
func TestPowerOff(t *testing.T) {
	r := rand.New(rand.NewSource(9))
	more := 0 // times that more was found than what was synced
	for _, every := range []int{1, 2, 3, 7, 100} {
		for begun := range 4 {
			all := sequence(r, anyHead(r), 24)
			n := all[0].Segment
			for fuse := -1; fuse < 3+2*len(all); fuse++ {
				for _, keep := range []int{0, 1, 2, 7, 15, 16, 17, 18, 31, 32, 33, 48, 49, 64, 65, 100, 101, -1, -2, -17} {
					p := power.New(disk.New(api.MaxQuota), fuse, []int{keep})
					appended, synced := run(p, all, min(begun+1, len(all)), every)
					p.Blow()
					s, _ := p.Disk().Read(names.Segment(n))
					got := scan(s, n)
					scanTo(t, s, n, scanned(s, n))
					records := len(got.l)
					if got.head.Kind == 3 {
						records++
					}
					want := foundIn(got.e, all[:min(records, len(all))]...)
					if records < synced || records > appended || !got.same(want) || got.e != api.OK && got.e != api.ErrTorn {
						t.Fatalf("fuse %d, keep %d: %d records were synced, %d appended, found was %v", fuse, keep, synced, appended, got)
					}
					if records > synced {
						more++
					}
				}
			}
		}
	}
	if more < 100 {
		t.Errorf("only %d times more was found than what was synced", more)
	}
}
