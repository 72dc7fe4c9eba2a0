package manifest_test

import (
	"encoding/binary"
	"fmt"
	"hash/crc32"
	"math"
	"math/rand"
	"slices"
	"strings"
	"testing"

	"hindcast/api"
	"hindcast/disk"
	"hindcast/manifest"
	"hindcast/power"
)

const (
	last  = math.MaxUint64 // of all numbers, and of all frames
	file  = "manifest"
	fresh = "manifest.new"
)

// made is a manifest of epoch 1 and player 0, with these checks behind the segments.
func made(l []manifest.Part, checks ...uint64) manifest.Manifest {
	return manifest.Manifest{Epoch: 1, Segments: l, Checks: checks}
}

// plain is the manifest of the chapter's examples.
func plain() manifest.Manifest { return made([]manifest.Part{{N: 1}}) }

// segments are n of them, numbered from 1 on, each of which begins a frame after the one before it.
func segments(n int) []manifest.Part {
	l := make([]manifest.Part, n)
	for i := range l {
		l[i] = manifest.Part{N: uint64(i + 1), First: uint64(i)}
	}
	return l
}

// descending are n frames.
func descending(n int) []uint64 {
	l := make([]uint64, n)
	for i := range l {
		l[i] = uint64(1000 - i)
	}
	return l
}

// payloadOf is the chapter's bytes, also of a manifest that is not valid.
func payloadOf(m manifest.Manifest) string {
	b := binary.LittleEndian.AppendUint64(nil, m.Epoch)
	b = append(b, m.Player, byte(len(m.Segments)))
	for _, part := range m.Segments {
		b = binary.LittleEndian.AppendUint64(b, part.N)
		b = binary.LittleEndian.AppendUint64(b, part.First)
	}
	b = append(b, byte(len(m.Checks)))
	for _, f := range m.Checks {
		b = binary.LittleEndian.AppendUint64(b, f)
	}
	return string(b)
}

// framed is chapter 4's frame.
func framed(payload string) string {
	length := binary.LittleEndian.AppendUint16(nil, uint16(len(payload)))
	sum := crc32.ChecksumIEEE(append(slices.Clone(length), payload...))
	return string(binary.LittleEndian.AppendUint32(length, sum)) + payload
}

func encoded(m manifest.Manifest) string { return framed(payloadOf(m)) }

// valid is the chapter's definition word by word, with every two segments and checks held against each other.
func valid(m manifest.Manifest) bool {
	n := len(m.Segments)
	ok := m.Epoch > 0 && (m.Player == 0 || m.Player == 1) && n >= 1 && n <= 12 && len(m.Checks) <= 2
	for i, b := range m.Segments {
		ok = ok && b.N > 0
		for _, a := range m.Segments[:i] {
			ok = ok && a.N < b.N && a.First <= b.First
		}
	}
	for i, b := range m.Checks {
		for _, a := range m.Checks[:i] {
			ok = ok && a > b
		}
	}
	return ok
}

// firstFrame is P4.2 word by word.
func firstFrame(s string) (payload string, used int, e api.Errno) {
	if len(s) < 6 {
		return "", 0, api.ErrTorn
	}
	n := int(s[0]) + 256*int(s[1])
	switch {
	case n > 4096:
		return "", 0, api.ErrLong
	case len(s)-6 < n:
		return "", 0, api.ErrTorn
	case framed(s[6:6+n]) != s[:6+n]:
		return "", 0, api.ErrSum
	}
	return s[6 : 6+n], 6 + n, api.OK
}

// parsed is the manifest of which p is the chapter's bytes, if it is of one; numbers that p is too short for are left out.
func parsed(p string) (m manifest.Manifest, ok bool) {
	number := func(at int) (n uint64) {
		if at+8 <= len(p) {
			n = binary.LittleEndian.Uint64([]byte(p[at:]))
		}
		return n
	}
	count := func(at int) int {
		if at < len(p) {
			return int(p[at])
		}
		return 0
	}
	m.Epoch, m.Player = number(0), byte(count(8))
	at := 10
	for range count(9) {
		m.Segments = append(m.Segments, manifest.Part{N: number(at), First: number(at + 8)})
		at += 16
	}
	for i := range count(at) {
		m.Checks = append(m.Checks, number(at+1+8*i))
	}
	return m, payloadOf(m) == p
}

// taken is P17.1 of Take word by word.
func taken(s string) (manifest.Manifest, api.Errno) {
	payload, used, e := firstFrame(s)
	if e != api.OK {
		return manifest.Manifest{}, e
	}
	m, ok := parsed(payload)
	if used < len(s) || !ok || !valid(m) {
		return manifest.Manifest{}, api.ErrForm
	}
	return m, api.OK
}

func same(a, b manifest.Manifest) bool {
	return a.Epoch == b.Epoch && a.Player == b.Player && slices.Equal(a.Segments, b.Segments) && slices.Equal(a.Checks, b.Checks)
}

// equal holds one value to another one.
func equal[T comparable](t *testing.T, what string, got, want T) {
	t.Helper()
	if got != want {
		t.Errorf("%s: %#v, not %#v", what, got, want)
	}
}

// takesTo holds both results of Take, and the model, so that it is tested along with it.
func takesTo(t *testing.T, s string, want manifest.Manifest, wantE api.Errno) {
	t.Helper()
	if m, e := manifest.Take(s); e != wantE || !same(m, want) {
		t.Errorf("Take of %d bytes % .60x: %+v, %d, not %+v, %d", len(s), s, m, e, want, wantE)
	}
	if m, e := taken(s); e != wantE || !same(m, want) {
		t.Errorf("the model of %d bytes % .60x: %+v, %d, not %+v, %d", len(s), s, m, e, want, wantE)
	}
}

// takes holds that Take returns m.
func takes(t *testing.T, s string, m manifest.Manifest) {
	t.Helper()
	takesTo(t, s, m, api.OK)
}

// refuses holds that Take returns e, and an empty manifest beside it.
func refuses(t *testing.T, s string, e api.Errno) {
	t.Helper()
	takesTo(t, s, manifest.Manifest{}, e)
}

// asModel holds that Take returns what the model does, and returns the error.
func asModel(t *testing.T, s string) api.Errno {
	t.Helper()
	m, e := taken(s)
	takesTo(t, s, m, e)
	return e
}

// loadsTo holds both results of Load.
func loadsTo(t *testing.T, what string, p *power.Power, want manifest.Manifest, wantE api.Errno) {
	t.Helper()
	if m, e := manifest.Load(p); e != wantE || !same(m, want) {
		t.Errorf("%s: Load: %+v, %d, not %+v, %d", what, m, e, want, wantE)
	}
}

// anyManifest is valid; its numbers are of all sizes.
func anyManifest(r *rand.Rand) manifest.Manifest {
	number := func() uint64 { return r.Uint64() >> r.Intn(64) }
	m := manifest.Manifest{Epoch: max(1, number()), Player: uint8(r.Intn(2))}
	n := r.Intn(12) + 1
	numbers := map[uint64]bool{}
	for len(numbers) < n {
		numbers[max(1, number())] = true
	}
	var all, frames []uint64
	for number := range numbers {
		all = append(all, number)
	}
	for range n {
		frames = append(frames, number())
	}
	slices.Sort(all)
	slices.Sort(frames)
	for i := range n {
		m.Segments = append(m.Segments, manifest.Part{N: all[i], First: frames[i]})
	}
	if m.Checks = []uint64{number(), number()}; m.Checks[0] <= m.Checks[1] {
		m.Checks = m.Checks[:r.Intn(2)]
	}
	return m
}

// edge is a manifest, and whether it is valid.
type edge struct {
	what string
	m    manifest.Manifest
	ok   bool
}

// edges are those of the definition of a valid manifest.
func edges() []edge {
	var l []edge
	add := func(what string, ok bool, m manifest.Manifest) { l = append(l, edge{what, m, ok}) }
	for _, epoch := range []uint64{0, 1, 2, 1 << 32, last} {
		m := plain()
		m.Epoch = epoch
		add(fmt.Sprint("epoch ", epoch), epoch != 0, m)
	}
	for _, player := range []uint8{0, 1, 2, 128, 255} {
		m := plain()
		m.Player = player
		add(fmt.Sprint("player ", player), player <= 1, m)
	}
	for _, n := range []int{0, 1, 2, 11, 12, 13, 255, 256, 257, 268} {
		add(fmt.Sprint(n, " segments"), n >= 1 && n <= 12, made(segments(n)))
	}
	for _, n := range []int{0, 1, 2, 3, 4, 255, 256, 257, 258} {
		add(fmt.Sprint(n, " checks"), n <= 2, made(segments(1), descending(n)...))
	}
	add("no segments, not nil", false, made([]manifest.Part{}))
	add("no checks, not nil", true, made(segments(1), []uint64{}...))
	add("nothing", false, manifest.Manifest{})
	l = append(l, numberEdges()...)
	l = append(l, firstEdges()...)
	return append(l, checkEdges()...)
}

// numberEdges are those of the segments' numbers: in each place of three, below, at and above that of another one.
func numberEdges() []edge {
	var l []edge
	all := []uint64{0, 1, 2, 3, 256, 1 << 63, last - 1, last}
	for _, a := range all {
		l = append(l, edge{fmt.Sprint("segment ", a), made([]manifest.Part{{N: a, First: 9}}), a > 0})
		for _, b := range all {
			l = append(l, edge{fmt.Sprint("segments ", a, b), made([]manifest.Part{{N: a}, {N: b}}), 0 < a && a < b})
			for _, c := range all {
				l = append(l, edge{fmt.Sprint("segments ", a, b, c), made([]manifest.Part{{N: a}, {N: b}, {N: c}}), 0 < a && a < b && b < c})
			}
		}
	}
	for i := range 12 {
		for _, n := range []uint64{0, uint64(i), uint64(i + 1), uint64(i + 2)} {
			m := made(segments(12))
			m.Segments[i].N = n
			l = append(l, edge{fmt.Sprint("twelve with ", n, " at ", i), m, n == uint64(i+1) || i == 11 && n == 13})
		}
	}
	return l
}

// firstEdges are those of the segments' first frames, which stay, rise and fall.
func firstEdges() []edge {
	var l []edge
	all := []uint64{0, 1, 2, 256, 1 << 63, last - 1, last}
	for _, a := range all {
		l = append(l, edge{fmt.Sprint("from ", a, " on"), made([]manifest.Part{{N: 1, First: a}}), true})
		for _, b := range all {
			for _, c := range all {
				m := made([]manifest.Part{{N: 7, First: a}, {N: 8, First: b}, {N: last, First: c}})
				l = append(l, edge{fmt.Sprint("from ", a, b, c, " on"), m, a <= b && b <= c})
			}
		}
	}
	for i := range 12 {
		for _, first := range []uint64{0, 6, 7, 8, last} {
			m := made(segments(12))
			for j := range m.Segments {
				m.Segments[j].First = 7
			}
			m.Segments[i].First = first
			ok := first == 7 || i == 0 && first < 7 || i == 11 && first > 7
			l = append(l, edge{fmt.Sprint("twelve from 7 on, ", first, " at ", i), m, ok})
		}
	}
	return l
}

// checkEdges are those of the checks: alike, ascending, and descending.
func checkEdges() []edge {
	var l []edge
	all := []uint64{0, 1, 5, 256, 1 << 63, last - 1, last}
	for _, a := range all {
		l = append(l, edge{fmt.Sprint("check ", a), made(segments(1), a), true})
		for _, b := range all {
			l = append(l, edge{fmt.Sprint("checks ", a, b), made(segments(1), a, b), a > b})
			for _, c := range all {
				l = append(l, edge{fmt.Sprint("checks ", a, b, c), made(segments(1), a, b, c), false})
			}
		}
	}
	return l
}

// on is a power that stays on, over a disk of that quota.
func on(quota int) *power.Power { return power.New(disk.New(quota), -1, nil) }

// off is a power that is off, over a disk with a manifest.
func off() *power.Power {
	p := on(1000)
	lay(p, file, encoded(plain()))
	p.Blow()
	return p
}

// lay puts a file on a disk, synced.
func lay(p *power.Power, name, bytes string) {
	p.Create(name)
	p.Append(name, bytes)
	p.Sync(name)
}

// files is what a disk has: of each file its name, its bytes, and how many of them are synced.
func files(d *disk.Disk) string {
	var l []string
	for _, name := range d.List() {
		s, _ := d.Read(name)
		l = append(l, fmt.Sprintf("%s %x %d", name, s, d.Synced(name)))
	}
	return strings.Join(l, ", ")
}

// one is what files tells of one file.
func one(name, bytes string, synced int) string { return fmt.Sprintf("%s %x %d", name, bytes, synced) }

// TestExamples holds the chapter's table.
func TestExamples(t *testing.T) {
	m := plain()
	s, e := manifest.Put(m)
	equal(t, "Put", e, api.OK)
	equal(t, "its length", len(s), 33)
	takes(t, s, m)
	other := plain()
	other.Epoch = 0
	equal(t, "epoch 0", manifest.Check(other), api.ErrForm)
	equal(t, "no segments", manifest.Check(made(nil)), api.ErrForm)
	equal(t, "segments 2 and 2", manifest.Check(made([]manifest.Part{{N: 2}, {N: 2}})), api.ErrForm)
	equal(t, "checks 5 and 5", manifest.Check(made(segments(1), 5, 5)), api.ErrForm)
	other = plain()
	other.Player = 2
	equal(t, "player 2", manifest.Check(other), api.ErrForm)
	p := on(1000)
	loadsTo(t, "an empty disk", p, manifest.Manifest{}, api.ErrNone)
	equal(t, "Swap", manifest.Swap(p, m), api.OK)
	loadsTo(t, "after Swap", p, m, api.OK)
	for b := range 256 {
		refuses(t, s+string([]byte{byte(b)}), api.ErrForm)
	}
}

// TestPutBytes: P17.1: the bytes of a manifest, written out.
func TestPutBytes(t *testing.T) {
	m := manifest.Manifest{
		Epoch: 0x0102030405060708, Player: 1,
		Segments: []manifest.Part{{N: 2, First: 0x1122334455667788}, {N: 0x300, First: last}},
		Checks:   []uint64{0xa0b0, 9},
	}
	s, e := manifest.Put(m)
	equal(t, "Put", e, api.OK)
	want := "\x08\x07\x06\x05\x04\x03\x02\x01" + "\x01" + "\x02" +
		"\x02\x00\x00\x00\x00\x00\x00\x00" + "\x88\x77\x66\x55\x44\x33\x22\x11" +
		"\x00\x03\x00\x00\x00\x00\x00\x00" + "\xff\xff\xff\xff\xff\xff\xff\xff" +
		"\x02" + "\xb0\xa0\x00\x00\x00\x00\x00\x00" + "\x09\x00\x00\x00\x00\x00\x00\x00"
	equal(t, "its bytes", s, framed(want))
	equal(t, "of the model", encoded(m), framed(want))
	takes(t, s, m)
}

// TestEdges: P17.1: Check, Put, and Take of the bytes, of each edge of a valid manifest.
func TestEdges(t *testing.T) {
	for _, x := range edges() {
		wantE, want := api.ErrForm, ""
		if x.ok {
			wantE, want = api.OK, encoded(x.m)
		}
		equal(t, "Check of "+x.what, manifest.Check(x.m), wantE)
		equal(t, "the model of "+x.what, valid(x.m), x.ok)
		s, e := manifest.Put(x.m)
		equal(t, "the error of Put of "+x.what, e, wantE)
		equal(t, "Put of "+x.what, s, want)
		switch {
		case x.ok:
			takes(t, s, x.m)
		case len(x.m.Segments) < 256 && len(x.m.Checks) < 256: // others have no bytes
			refuses(t, encoded(x.m), api.ErrForm)
		}
	}
}

// TestCheckOfTwo: P17.1: a manifest of which more than one thing is wrong, or everything.
func TestCheckOfTwo(t *testing.T) {
	wrong := []func(m *manifest.Manifest){
		func(m *manifest.Manifest) { m.Epoch = 0 },
		func(m *manifest.Manifest) { m.Player = 2 },
		func(m *manifest.Manifest) { m.Segments = nil },
		func(m *manifest.Manifest) { m.Segments = segments(13) },
		func(m *manifest.Manifest) { m.Segments = []manifest.Part{{N: 2, First: 9}, {N: 1, First: 8}} },
		func(m *manifest.Manifest) { m.Checks = []uint64{3, 2, 1} },
		func(m *manifest.Manifest) { m.Checks = []uint64{1, 2} },
	}
	for set := range 1 << len(wrong) {
		m := made(segments(3), 9, 4)
		for i, spoil := range wrong {
			if set>>i&1 == 1 {
				spoil(&m)
			}
		}
		equal(t, fmt.Sprintf("Check of %+v", m), manifest.Check(m) == api.OK, set == 0)
		if set != 0 {
			refuses(t, encoded(m), api.ErrForm)
		}
	}
}

// some are manifests of several lengths, the shortest one and the longest one among them.
func some() []manifest.Manifest {
	return []manifest.Manifest{
		plain(), made(segments(1), 7), made(segments(1), 7, 0), made(segments(2)), made(segments(3), last, 1),
		made(segments(12)), made(segments(12), 9, 4), {Epoch: last, Player: 1, Segments: []manifest.Part{{N: last, First: last}}, Checks: []uint64{last}},
	}
}

// TestTakeCut: P17.1: the empty string, and each beginning of an encoding.
func TestTakeCut(t *testing.T) {
	refuses(t, "", api.ErrTorn)
	for _, m := range some() {
		s := encoded(m)
		for n := range len(s) {
			refuses(t, s[:n], api.ErrTorn)
		}
		takes(t, s, m)
	}
}

// TestTakeMore: P17.1: anything behind the frame, also the same frame once more, and a torn one.
func TestTakeMore(t *testing.T) {
	for _, m := range some() {
		s := encoded(m)
		for _, more := range []string{"\x00", "\xff", s, s[:7], framed(""), strings.Repeat("\x00", 6), strings.Repeat("\xff", 70000)} {
			refuses(t, s+more, api.ErrForm)
		}
		refuses(t, framed("")+s, api.ErrForm)
		refuses(t, "\x00"+s, asModel(t, "\x00"+s))
	}
}

// TestTakeTurned: P17.1: one byte turned, at each place, to each other value.
func TestTakeTurned(t *testing.T) {
	for _, m := range some() {
		s := encoded(m)
		for at := range len(s) {
			for by := 1; by < 256; by++ {
				b := []byte(s)
				b[at] ^= byte(by)
				e := asModel(t, string(b))
				if at >= 2 && e != api.ErrSum || e == api.OK || e == api.ErrForm {
					t.Fatalf("byte %d turned by %d: %d", at, by, e)
				}
			}
		}
	}
}

// TestTakeOtherLengths: P17.1: a frame that is whole, but whose payload is shorter or longer than an encoding, by each number of bytes.
func TestTakeOtherLengths(t *testing.T) {
	for _, m := range some() {
		p := payloadOf(m)
		for n := range len(p) {
			refuses(t, framed(p[:n]), api.ErrForm)
		}
		for n := 1; len(p)+n <= api.MaxPayload; n++ {
			refuses(t, framed(p+strings.Repeat("\x00", n)), api.ErrForm)
		}
		for _, more := range []string{"\x01", "\xff", p, strings.Repeat("\xff", 8), strings.Repeat("\xff", 16)} {
			refuses(t, framed(p+more), api.ErrForm)
			refuses(t, framed(more+p), api.ErrForm)
		}
	}
}

// TestTakeCounts: P17.1: each number of segments, and of checks, that the payload does not hold; and more than there may be, all of which it holds.
func TestTakeCounts(t *testing.T) {
	for _, m := range some() {
		n := len(m.Segments)
		for _, at := range []int{9, 10 + 16*n} {
			for count := range 256 {
				b := []byte(payloadOf(m))
				own := int(b[at]) == count
				// A few segments more than there are may have the bytes of the checks.
				may := own || at == 9 && 16*count <= len(b)-11
				b[at] = byte(count)
				if e := asModel(t, framed(string(b))); own && e != api.OK || !may && e != api.ErrForm {
					t.Errorf("%d at %d: %d", count, at, e)
				}
			}
		}
	}
	for n := 13; n < 256; n++ {
		refuses(t, encoded(made(segments(n))), api.ErrForm)
		refuses(t, encoded(made(segments(n)))[:30], api.ErrTorn)
	}
	for n := 3; n < 256; n++ {
		refuses(t, encoded(made(segments(1), descending(n)...)), api.ErrForm)
		refuses(t, encoded(made(segments(12), descending(n)...)), api.ErrForm)
	}
}

// TestTakeFirstError: P17.1: where more than one error applies, that of the frame is ahead of ErrForm, and of these the first one of chapter 4.
func TestTakeFirstError(t *testing.T) {
	wrong := []string{"", "\x00", payloadOf(made(nil)), payloadOf(made(segments(13))), payloadOf(plain()) + "\x00", payloadOf(made(segments(2), 1, 2))}
	for _, payload := range wrong {
		s := framed(payload)
		for _, more := range []string{"", "\x00", s, strings.Repeat("\xff", 5000)} {
			refuses(t, s+more, api.ErrForm)
			spoilt := []byte(s)
			spoilt[2] ^= 1
			refuses(t, string(spoilt)+more, api.ErrSum)
			refuses(t, "\x01\x10"+s[2:]+more, api.ErrLong)
			refuses(t, "\xff\xff"+string(spoilt[2:])+more, api.ErrLong)
		}
		spoilt := []byte(s)
		spoilt[2] ^= 1
		if payload != "" {
			refuses(t, s[:len(s)-1], api.ErrTorn)
			refuses(t, string(spoilt[:len(s)-1]), api.ErrTorn)
		}
		refuses(t, "\x01\x10"+s[2:5], api.ErrTorn)
		refuses(t, "\x00\x10"+s[2:], api.ErrTorn)
	}
}

// TestTakeOfPut: P17.4 at many manifests.
func TestTakeOfPut(t *testing.T) {
	r := rand.New(rand.NewSource(1))
	for range 20000 {
		m := anyManifest(r)
		equal(t, "Check", manifest.Check(m), api.OK)
		s, e := manifest.Put(m)
		equal(t, "Put", e, api.OK)
		equal(t, "its bytes", s, encoded(m))
		equal(t, "its length", len(s), 17+16*len(m.Segments)+8*len(m.Checks))
		takes(t, s, m)
	}
}

// nearly is a manifest of which a little was changed.
func nearly(r *rand.Rand) manifest.Manifest {
	m := anyManifest(r)
	i := r.Intn(len(m.Segments))
	switch r.Intn(8) {
	case 0:
		m.Epoch >>= r.Intn(65)
	case 1:
		m.Player = uint8(r.Intn(4))
	case 2:
		m.Segments[i].N = m.Segments[r.Intn(len(m.Segments))].N + uint64(r.Intn(3)) - 1
	case 3:
		m.Segments[i].First = m.Segments[r.Intn(len(m.Segments))].First + uint64(r.Intn(3)) - 1
	case 4:
		m.Segments = slices.Repeat(m.Segments, r.Intn(4))
	case 5:
		slices.Reverse(m.Checks)
	case 6:
		m.Checks = append(m.Checks, r.Uint64()>>r.Intn(64))
	}
	return m
}

// TestPutOfTake: P17.4 at many strings: any bytes, any payloads, and encodings that were changed by a little.
func TestPutOfTake(t *testing.T) {
	r := rand.New(rand.NewSource(2))
	errors := map[api.Errno]int{}
	for range 40000 {
		b := make([]byte, r.Intn(80))
		r.Read(b)
		p := []byte(payloadOf(nearly(r)))
		if r.Intn(2) == 0 {
			p[r.Intn(len(p))] ^= 1 << r.Intn(8)
		}
		whole := []byte(framed(string(p)))
		if r.Intn(4) == 0 {
			whole[r.Intn(len(whole))] ^= 1 << r.Intn(8)
		}
		for _, s := range []string{string(b), framed(string(b)), string(whole), string(whole[:r.Intn(len(whole)+1)])} {
			e := asModel(t, s)
			errors[e]++
			if m, e := manifest.Take(s); e == api.OK {
				back, e := manifest.Put(m)
				equal(t, "Put of what was taken", e, api.OK)
				equal(t, "its bytes", back, s)
			}
		}
	}
	for _, e := range []api.Errno{api.OK, api.ErrForm, api.ErrTorn, api.ErrSum, api.ErrLong} {
		if errors[e] < 100 {
			t.Errorf("the error %d only %d times", e, errors[e])
		}
	}
}

// TestLoad: P17.2: the file's contents are taken, synced or not, whatever else there is; nothing is written.
func TestLoad(t *testing.T) {
	for _, m := range some() {
		s := encoded(m)
		p := on(1000)
		lay(p, fresh, s)
		lay(p, "s0000000000000001", s)
		loadsTo(t, "other files alone", p, manifest.Manifest{}, api.ErrNone)
		p.Create(file)
		loadsTo(t, "a file without bytes", p, manifest.Manifest{}, api.ErrTorn)
		for i := range len(s) - 1 {
			p.Append(file, s[i:i+1])
			loadsTo(t, "a file that is torn", p, manifest.Manifest{}, api.ErrTorn)
		}
		p.Append(file, s[len(s)-1:])
		writes, before := p.Writes(), files(p.Disk())
		loadsTo(t, "a file that is not synced", p, m, api.OK)
		equal(t, "writes", p.Writes(), writes)
		equal(t, "the disk", files(p.Disk()), before)
		p.Append(file, "\x00")
		loadsTo(t, "a byte more", p, manifest.Manifest{}, api.ErrForm)
	}
}

// TestLoadSpoilt: P17.2: the errors of a file that is spoilt are those of Take.
func TestLoadSpoilt(t *testing.T) {
	r := rand.New(rand.NewSource(3))
	spoilt := []string{"\x01\x10" + strings.Repeat("\x00", 4), framed(""), framed("\x00"), encoded(made(nil)), encoded(made(segments(13))), strings.Repeat("\xff", api.MaxFile)}
	for range 2000 {
		b := []byte(encoded(nearly(r)))
		b[r.Intn(len(b))] ^= byte(r.Intn(4))
		spoilt = append(spoilt, string(b))
	}
	for _, s := range spoilt {
		p := on(api.MaxQuota)
		lay(p, file, s)
		m, e := taken(s)
		loadsTo(t, "a file of the bytes "+fmt.Sprintf("% .60x", s), p, m, e)
	}
}

// TestLoadOff: P17.2: a power that is nil, that New did not return, or that is off, with a manifest on its disk.
func TestLoadOff(t *testing.T) {
	loadsTo(t, "nil", nil, manifest.Manifest{}, api.ErrNil)
	loadsTo(t, "no power of New", &power.Power{}, manifest.Manifest{}, api.ErrNil)
	p := off()
	loadsTo(t, "off", p, manifest.Manifest{}, api.ErrDown)
	loadsTo(t, "its disk with another power", power.New(p.Disk(), -1, nil), plain(), api.OK)
}

// TestSwap: P17.3: the file has the encoding, synced; the new file is gone; others stay. Without a new file that was left there, the writes are four.
func TestSwap(t *testing.T) {
	r := rand.New(rand.NewSource(4))
	p := on(1000)
	lay(p, "s0000000000000001", "xyz")
	p.Append("s0000000000000001", "w")
	other := files(p.Disk())
	writes := p.Writes()
	for range 300 {
		m := anyManifest(r)
		equal(t, "Swap", manifest.Swap(p, m), api.OK)
		writes += 4
		equal(t, "writes", p.Writes(), writes)
		equal(t, "the disk", files(p.Disk()), one(file, encoded(m), len(encoded(m)))+", "+other)
		loadsTo(t, "after Swap", p, m, api.OK)
	}
}

// TestSwapWithNewFile: P17.3: a new file that was left there, whatever its bytes, is removed first, and nothing of it stays.
func TestSwapWithNewFile(t *testing.T) {
	for _, m := range some() {
		s := encoded(m)
		for _, left := range []string{"", "x", s[:len(s)-1], s, s + "x", strings.Repeat("z", 500)} {
			for _, before := range []string{"", "x", encoded(plain())} {
				p := on(1000)
				if before != "" {
					lay(p, file, before)
				}
				lay(p, fresh, left)
				p.Append(fresh, "y")
				writes := p.Writes()
				equal(t, "Swap", manifest.Swap(p, m), api.OK)
				equal(t, "writes", p.Writes(), writes+5)
				equal(t, "the disk", files(p.Disk()), one(file, s, len(s)))
			}
		}
	}
}

// TestSwapOfOtherNames: P17.3: a file whose name only resembles that of the new file is not removed.
func TestSwapOfOtherNames(t *testing.T) {
	for _, name := range []string{"manifest.ne", "manifest.new0", "manifest.new.new", "amanifest.new", "new", ".new", "manifesz.new"} {
		p := on(1000)
		lay(p, name, "x")
		equal(t, "Swap", manifest.Swap(p, plain()), api.OK)
		equal(t, "writes", p.Writes(), 3+4)
		s, e := p.Read(name)
		equal(t, name+" stays", s, "x")
		equal(t, name+" is there", e, api.OK)
	}
}

// TestSwapNotValid: P17.3: a manifest that is not valid is refused, and nothing is asked of the power: not even whether it is on, or there.
func TestSwapNotValid(t *testing.T) {
	for _, x := range edges() {
		if x.ok {
			equal(t, "Swap of "+x.what, manifest.Swap(on(1000), x.m), api.OK)
			continue
		}
		for _, p := range []*power.Power{nil, {}, off(), on(1), on(1000)} {
			writes := p.Writes()
			equal(t, "Swap of "+x.what, manifest.Swap(p, x.m), api.ErrForm)
			equal(t, "writes", p.Writes(), writes)
		}
		p := power.New(disk.New(1000), 3, []int{1})
		lay(p, fresh, "x") // the next write is that of the fuse
		before := files(p.Disk())
		equal(t, "Swap of "+x.what, manifest.Swap(p, x.m), api.ErrForm)
		equal(t, "writes", p.Writes(), 3)
		equal(t, "off", p.Down(), false)
		equal(t, "the disk", files(p.Disk()), before)
	}
}

// TestSwapOff: P17.3: a power that is nil, that New did not return, or that is off: its error, and nothing is done.
func TestSwapOff(t *testing.T) {
	equal(t, "nil", manifest.Swap(nil, plain()), api.ErrNil)
	equal(t, "no power of New", manifest.Swap(&power.Power{}, plain()), api.ErrNil)
	p := off()
	before, writes := files(p.Disk()), p.Writes()
	equal(t, "off", manifest.Swap(p, made(segments(2))), api.ErrDown)
	equal(t, "the disk", files(p.Disk()), before)
	equal(t, "writes", p.Writes(), writes)
}

// TestSwapFullOfBytes: P17.3: with a byte too few, Append returns ErrFull, and nothing is done behind it: a new file without bytes is left. The next Swap that fits removes it.
func TestSwapFullOfBytes(t *testing.T) {
	m := made(segments(3), 9)
	small, s := encoded(plain()), encoded(m)
	for quota := len(small); quota <= len(small)+len(s)+1; quota++ {
		p := on(quota)
		lay(p, file, small)
		if quota >= len(small)+len(s) {
			equal(t, "Swap", manifest.Swap(p, m), api.OK)
			equal(t, "the disk", files(p.Disk()), one(file, s, len(s)))
			continue
		}
		equal(t, "Swap", manifest.Swap(p, m), api.ErrFull)
		equal(t, "writes", p.Writes(), 3+2)
		equal(t, "the disk", files(p.Disk()), one(file, small, len(small))+", "+one(fresh, "", 0))
		loadsTo(t, "after it", p, plain(), api.OK)
		equal(t, "Swap again", manifest.Swap(p, m), api.ErrFull)
		equal(t, "writes", p.Writes(), 3+2+3)
		p.Remove(file)
		if quota >= len(s) {
			equal(t, "Swap with more room", manifest.Swap(p, m), api.OK)
			equal(t, "the disk", files(p.Disk()), one(file, s, len(s)))
		}
	}
}

// TestSwapRoomOfNewFile: P17.3: what a new file that was left there takes is free again ahead of Append.
func TestSwapRoomOfNewFile(t *testing.T) {
	s := encoded(plain())
	p := on(len(s))
	lay(p, fresh, strings.Repeat("x", len(s)))
	equal(t, "Swap", manifest.Swap(p, plain()), api.OK)
	equal(t, "the disk", files(p.Disk()), one(file, s, len(s)))
}

// TestSwapFullOfFiles: P17.3: with 64 files, Create returns ErrFull, and nothing is done behind it; but if one of them is the new file, it is removed first.
func TestSwapFullOfFiles(t *testing.T) {
	for _, left := range []bool{false, true} {
		p := on(1000)
		lay(p, file, encoded(plain()))
		if left {
			p.Create(fresh)
		}
		for i := 0; len(p.List()) < api.MaxFiles; i++ {
			p.Create(fmt.Sprint(i))
		}
		m, before, writes := made(segments(2)), files(p.Disk()), p.Writes()
		if left {
			equal(t, "Swap", manifest.Swap(p, m), api.OK)
			equal(t, "files", len(p.List()), api.MaxFiles-1)
			loadsTo(t, "after it", p, m, api.OK)
			continue
		}
		equal(t, "Swap", manifest.Swap(p, m), api.ErrFull)
		equal(t, "writes", p.Writes(), writes+1)
		equal(t, "the disk", files(p.Disk()), before)
	}
}

// TestSwapGoesOff: P17.3: the power goes off at each write, which is done or not: ErrDown, the calls ahead of it were made, and none behind it. Of the new file's tail some bytes are kept.
func TestSwapGoesOff(t *testing.T) {
	m := made(segments(2), 7)
	old, s := encoded(plain()), encoded(m)
	for _, kept := range []int{0, 1, 6, len(s) - 1, len(s)} {
		ahead := one(file, old, len(old))
		stages := []string{ // ahead of each write, and behind the last one, after a crash
			ahead + ", " + one(fresh, "left", 4),
			ahead,
			ahead + ", " + one(fresh, "", 0),
			ahead + ", " + one(fresh, s[:kept], kept),
			ahead + ", " + one(fresh, s, len(s)),
			one(file, s, len(s)),
		}
		for i := range len(stages) - 1 {
			for done := range 2 {
				p := power.New(disk.New(1000), 6+i, []int{done, kept})
				lay(p, file, old)
				lay(p, fresh, "left")
				what := fmt.Sprintf("write %d, done %d, %d kept", i, done, kept)
				equal(t, what, manifest.Swap(p, m), api.ErrDown)
				equal(t, what+": off", p.Down(), true)
				equal(t, what+": writes", p.Writes(), 6+i+1)
				equal(t, what+": the disk", files(p.Disk()), stages[i+done])
			}
		}
	}
}

// swapped is P17.3 word by word.
func swapped(p *power.Power, m manifest.Manifest) api.Errno {
	if !valid(m) {
		return api.ErrForm
	}
	for _, name := range p.List() {
		if name == fresh {
			if e := p.Remove(fresh); e != api.OK {
				return e
			}
		}
	}
	if e := p.Create(fresh); e != api.OK {
		return e
	}
	if e := p.Append(fresh, encoded(m)); e != api.OK {
		return e
	}
	if e := p.Sync(fresh); e != api.OK {
		return e
	}
	return p.Rename(fresh, file)
}

// anyDisk has a manifest, a new file, and others, or not; now and then it is full of files.
func anyDisk(r *rand.Rand) *disk.Disk {
	d := disk.New(r.Intn(600) + 1)
	for _, name := range []string{file, fresh, "a", "n", "s0000000000000001"} {
		if r.Intn(2) == 0 {
			d.Create(name)
			d.Append(name, encoded(anyManifest(r))[:r.Intn(33)])
			if r.Intn(2) == 0 {
				d.Sync(name)
			}
			d.Append(name, strings.Repeat("x", r.Intn(5)))
		}
	}
	if r.Intn(8) == 0 {
		for i := range api.MaxFiles {
			d.Create(fmt.Sprint(i))
		}
	}
	return d
}

// TestSwapAsModel: P17.3 at many disks, with many fuses: the same error, the same writes, the same disk as by the chapter's words.
func TestSwapAsModel(t *testing.T) {
	r := rand.New(rand.NewSource(5))
	errors := map[api.Errno]int{}
	for range 20000 {
		d, m := anyDisk(r), nearly(r)
		fuse, keep := r.Intn(10)-2, []int{r.Intn(100), r.Intn(100), r.Intn(100)}[:r.Intn(4)]
		p, twin := power.New(d, fuse, keep), power.New(d.Copy(), fuse, keep)
		for range r.Intn(3) + 1 {
			e, want := manifest.Swap(p, m), swapped(twin, m)
			errors[e]++
			equal(t, "Swap", e, want)
			equal(t, "writes", p.Writes(), twin.Writes())
			equal(t, "off", p.Down(), twin.Down())
			equal(t, "the disk", files(p.Disk()), files(twin.Disk()))
		}
	}
	for _, e := range []api.Errno{api.OK, api.ErrForm, api.ErrDown, api.ErrFull} {
		if errors[e] < 100 {
			t.Errorf("the error %d only %d times", e, errors[e])
		}
	}
}

// loaded is what a disk that is switched on again gives.
func loaded(d *disk.Disk) (manifest.Manifest, api.Errno) {
	return manifest.Load(power.New(d, -1, nil))
}

// ahead are disks: empty, with a manifest that was swapped there, with one that is spoilt, each with and without a new file.
func ahead(t *testing.T, r *rand.Rand) []*disk.Disk {
	empty, good, spoilt := disk.New(1000), disk.New(1000), disk.New(1000)
	equal(t, "the first Swap", manifest.Swap(power.New(good, -1, nil), anyManifest(r)), api.OK)
	lay(power.New(spoilt, -1, nil), file, encoded(plain())+"x")
	l := []*disk.Disk{empty, good, spoilt}
	for _, d := range l[:3] {
		for _, left := range []string{"", "left", encoded(anyManifest(r))} {
			d = d.Copy()
			lay(power.New(d, -1, nil), fresh, left)
			d.Append(fresh, "tail")
			l = append(l, d)
		}
	}
	return l
}

// TestPowerOff: P17.5: the power goes off at each write, with several numbers of kept bytes: what is loaded is what was there, or the new manifest; after OK the new one; and a Swap that is made again succeeds.
func TestPowerOff(t *testing.T) {
	r := rand.New(rand.NewSource(6))
	outcomes := map[string]int{}
	for range 20 {
		for _, d := range ahead(t, r) {
			old, oldE := loaded(d)
			for fuse := -1; fuse < 7; fuse++ {
				for _, number := range []int{0, 1, 2, 3, 6, 7, 16, 17, 32, 33, 34, 35, 100, 101, -1, -2, -7} {
					m := anyManifest(r)
					p := power.New(d.Copy(), fuse, []int{number, number / 2})
					e := manifest.Swap(p, m)
					p.Blow()
					got, gotE := loaded(p.Disk())
					isOld := gotE == oldE && same(got, old)
					isNew := gotE == api.OK && same(got, m)
					if !isNew && (e == api.OK || !isOld) || e != api.OK && e != api.ErrDown {
						t.Fatalf("fuse %d, number %d: Swap %d; then %+v, %d", fuse, number, e, got, gotE)
					}
					outcomes[fmt.Sprint(e, isNew)]++
					equal(t, "Swap again", manifest.Swap(power.New(p.Disk(), -1, nil), m), api.OK)
					got, gotE = loaded(p.Disk())
					equal(t, "the new one", same(got, m), true)
					equal(t, "Load", gotE, api.OK)
					equal(t, "the files", strings.Join(p.Disk().List(), " "), file)
				}
			}
		}
	}
	for _, o := range []string{"0 true", "8 true", "8 false"} {
		if outcomes[o] < 100 {
			t.Errorf("%s only %d times", o, outcomes[o])
		}
	}
}

// TestOnceMore: DOC.md's rules: what Take and Load returned is new memory, and what they answer hangs on their arguments alone.
func TestOnceMore(t *testing.T) {
	m := made(segments(5), 9, 4)
	p := on(1000)
	manifest.Swap(p, m)
	for range 3 {
		s := encoded(m)
		taken, _ := manifest.Take(s)
		read, _ := manifest.Load(p)
		for _, got := range []manifest.Manifest{taken, read} {
			clear(got.Segments[:cap(got.Segments)])
			clear(got.Checks[:cap(got.Checks)])
		}
		takes(t, s, m)
		loadsTo(t, "once more", p, m, api.OK)
		refuses(t, s[1:], asModel(t, s[1:]))
	}
}

// TestArgumentsStay: DOC.md's rules: Check, Put and Swap neither change nor keep the lists, also where these have room behind them.
func TestArgumentsStay(t *testing.T) {
	parts, checks := segments(12), descending(9)
	beforeParts, beforeChecks := slices.Clone(parts), slices.Clone(checks)
	m := made(parts[:3], checks[:2]...)
	want := encoded(m)
	p := on(1000)
	equal(t, "Check", manifest.Check(m), api.OK)
	s, _ := manifest.Put(m)
	equal(t, "Put", s, want)
	equal(t, "Swap", manifest.Swap(p, m), api.OK)
	equal(t, "the segments are the same", slices.Equal(parts, beforeParts), true)
	equal(t, "the checks are the same", slices.Equal(checks, beforeChecks), true)
	clear(parts)
	clear(checks)
	equal(t, "Put's bytes stay", s, want)
	loadsTo(t, "after Swap", p, made(beforeParts[:3], beforeChecks[:2]...), api.OK)
}
