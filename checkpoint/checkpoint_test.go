package checkpoint_test

import (
	"encoding/binary"
	"fmt"
	"hash/crc32"
	"hash/fnv"
	"math"
	"math/rand"
	"slices"
	"strings"
	"testing"

	"hindcast/api"
	"hindcast/checkpoint"
	"hindcast/disk"
	"hindcast/power"
	"hindcast/state"
)

const (
	last   = math.MaxUint64 // of all frames
	digest = 16             // bytes of a payload ahead of its state
)

// file is the name of a frame's file, fresh that of its fresh file.
func file(f uint64) string { return fmt.Sprintf("c%016x", f) }

func fresh(f uint64) string { return file(f) + ".new" }

// plain is the first state of seed 1, with that frame; the chapter's examples have it with frame 5.
func plain(f uint64) api.State {
	s := state.Start(1)
	s.Frame = f
	return s
}

// shooting is plain with n shots, no two of which are alike.
func shooting(f uint64, n int) api.State {
	s := plain(f)
	for i := range n {
		s.Shots = append(s.Shots, api.Shot{X: int32(i), Y: 7, VX: -9, Owner: uint8(i % 2), Life: uint8(i + 1)})
	}
	return s
}

// some are states of the first frames and the last one, with no shot, and with as many as there may be.
func some() []api.State {
	other := shooting(1<<63+9, 3)
	other.Seed, other.Score = last, [2]uint16{1, math.MaxUint16}
	return []api.State{plain(0), plain(1), plain(5), plain(last), shooting(0, 8), shooting(1, 1), shooting(last, 8), other}
}

// spoilt are states that are not valid, of frame f.
func spoilt(f uint64) []api.State {
	var l []api.State
	add := func(shots int, spoil func(s *api.State)) {
		s := shooting(f, shots)
		spoil(&s)
		l = append(l, s)
	}
	add(0, func(s *api.State) { s.Players[0].Health = 0 })
	add(0, func(s *api.State) { s.Players[1].Health = 101 })
	add(0, func(s *api.State) { s.Players[1].X = -1 })
	add(0, func(s *api.State) { s.Players[0].VX = 1025 })
	add(0, func(s *api.State) { s.Players[0].Face = 4 })
	add(9, func(s *api.State) {})
	add(8, func(s *api.State) { s.Shots[7].Life = 0 })
	add(1, func(s *api.State) { s.Shots[0].Owner = 2 })
	add(300, func(s *api.State) {})
	return append(l, api.State{Frame: f})
}

// anyState is a valid one; its numbers are anywhere within their bounds, often at their ends.
func anyState(r *rand.Rand, f uint64) api.State {
	within := func(low, high int32) int32 {
		switch r.Intn(8) {
		case 0:
			return low
		case 1:
			return high
		}
		return low + r.Int31n(high-low+1)
	}
	s := api.State{Frame: f, Seed: r.Uint64() >> r.Intn(64), Score: [2]uint16{uint16(r.Uint32()), uint16(r.Intn(9))}}
	for i := range s.Players {
		s.Players[i] = api.Player{
			X: within(0, 61440), Y: within(0, 28672), VX: within(-1024, 1024), VY: within(-1024, 1024),
			Health: uint8(within(1, 100)), Cool: uint8(within(0, 30)), Face: uint8(within(0, 3)),
		}
	}
	for range within(0, 8) {
		s.Shots = append(s.Shots, api.Shot{
			X: within(0, 65024), Y: within(0, 32256), VX: within(-2048, 2048), VY: within(-2048, 2048),
			Owner: uint8(within(0, 1)), Life: uint8(within(1, 40)),
		})
	}
	return s
}

// encoding is chapter 8's, worked out by the library's means; states that are not valid have one, too.
func encoding(s api.State) string {
	b := binary.LittleEndian.AppendUint64(nil, s.Frame)
	b = binary.LittleEndian.AppendUint64(b, s.Seed)
	b = fixed(b, s.Players)
	b = binary.AppendUvarint(b, uint64(len(s.Shots)))
	b = fixed(b, s.Shots)
	return string(fixed(b, s.Score))
}

func fixed(b []byte, v any) []byte {
	b, e := binary.Append(b, binary.LittleEndian, v)
	if e != nil {
		panic(e)
	}
	return b
}

// hash is chapter 10's digest of these bytes.
func hash(s string) uint64 {
	h := fnv.New64a()
	h.Write([]byte(s))
	return h.Sum64()
}

// framed is chapter 4's frame.
func framed(payload string) string {
	length := binary.LittleEndian.AppendUint16(nil, uint16(len(payload)))
	sum := crc32.ChecksumIEEE(append(slices.Clone(length), payload...))
	return string(binary.LittleEndian.AppendUint32(length, sum)) + payload
}

// payloadOf is what is in a text's frame, whether its parts belong together or not.
func payloadOf(frame, sum uint64, rest string) string {
	b := binary.LittleEndian.AppendUint64(nil, frame)
	return string(binary.LittleEndian.AppendUint64(b, sum)) + rest
}

// textOf is the chapter's text, also of a state that is not valid.
func textOf(s api.State) string {
	b := encoding(s)
	return framed(payloadOf(s.Frame, hash(b), b))
}

// firstFrame is P4.2 word by word.
func firstFrame(s string) (payload string, used int, e api.Errno) {
	if len(s) < 6 {
		return "", 0, api.ErrTorn
	}
	n := int(s[0]) + 256*int(s[1])
	switch {
	case n > 4096:
		return "", 0, api.ErrLong
	case len(s)-6 < n:
		return "", 0, api.ErrTorn
	case framed(s[6:6+n]) != s[:6+n]:
		return "", 0, api.ErrSum
	}
	return s[6 : 6+n], 6 + n, api.OK
}

// read is P18.2 word by word, of the bytes of a file.
func read(text string, f uint64) (api.State, api.Errno) {
	payload, used, e := firstFrame(text)
	if e != api.OK {
		return api.State{}, e
	}
	if used < len(text) {
		return api.State{}, api.ErrForm
	}
	if len(payload) < 16 {
		return api.State{}, api.ErrTorn
	}
	s, e := state.Take(payload[16:])
	if e != api.OK {
		return api.State{}, e
	}
	if binary.LittleEndian.Uint64([]byte(payload)) != f || s.Frame != f {
		return api.State{}, api.ErrForm
	}
	if binary.LittleEndian.Uint64([]byte(payload[8:])) != hash(payload[16:]) {
		return api.State{}, api.ErrSum
	}
	return s, api.OK
}

// written is P18.1 word by word.
func written(p *power.Power, s api.State) api.Errno {
	if state.Check(s) != api.OK {
		return api.ErrForm
	}
	there := map[string]int{}
	for _, name := range p.List() {
		there[name] = 1
	}
	if there[file(s.Frame)] == 1 {
		return api.OK
	}
	if there[fresh(s.Frame)] == 1 {
		if e := p.Remove(fresh(s.Frame)); e != api.OK {
			return e
		}
	}
	if e := p.Create(fresh(s.Frame)); e != api.OK {
		return e
	}
	if e := p.Append(fresh(s.Frame), textOf(s)); e != api.OK {
		return e
	}
	if e := p.Sync(fresh(s.Frame)); e != api.OK {
		return e
	}
	return p.Rename(fresh(s.Frame), file(s.Frame))
}

// equal holds one value to another one.
func equal[T comparable](t *testing.T, what string, got, want T) {
	t.Helper()
	if got != want {
		t.Errorf("%s: %#v, not %#v", what, got, want)
	}
}

// nothing is whether s is the zero value, its list of shots nil or empty.
func nothing(s api.State) bool { return state.Same(s, api.State{}) }

// loadsTo holds both results of Load.
func loadsTo(t *testing.T, what string, p *power.Power, f uint64, want api.State, wantE api.Errno) {
	t.Helper()
	if s, e := checkpoint.Load(p, f); e != wantE || !state.Same(s, want) {
		t.Errorf("%s: Load of %d: %+v, %d, not %+v, %d", what, f, s, e, want, wantE)
	}
}

// fails holds that Load returns e, and the zero value beside it.
func fails(t *testing.T, what string, p *power.Power, f uint64, e api.Errno) {
	t.Helper()
	loadsTo(t, what, p, f, api.State{}, e)
}

// refuses holds that Load of a file of frame f with these bytes returns e; so does the model, which is tested along with it.
func refuses(t *testing.T, what, bytes string, f uint64, e api.Errno) {
	t.Helper()
	fails(t, what, with(file(f), bytes), f, e)
	if s, e2 := read(bytes, f); e2 != e || !nothing(s) {
		t.Errorf("%s: the model of frame %d: %+v, %d, not %d", what, f, s, e2, e)
	}
}

// asModel holds that Load of a file of frame f with these bytes returns what the model does, and returns the error.
func asModel(t *testing.T, what, bytes string, f uint64) api.Errno {
	t.Helper()
	s, e := read(bytes, f)
	loadsTo(t, what, with(file(f), bytes), f, s, e)
	return e
}

// newestIs holds all results of Newest.
func newestIs(t *testing.T, what string, p *power.Power, l []uint64, want api.State, wantAt int, wantE api.Errno) {
	t.Helper()
	if s, at, e := checkpoint.Newest(p, l); e != wantE || at != wantAt || !state.Same(s, want) {
		t.Errorf("%s: Newest of %v: %+v, %d, %d, not %+v, %d, %d", what, l, s, at, e, want, wantAt, wantE)
	}
}

// on is a power that stays on, over a disk of that quota.
func on(quota int) *power.Power { return power.New(disk.New(quota), -1, nil) }

// again is another power over the same disk.
func again(p *power.Power) *power.Power { return power.New(p.Disk(), -1, nil) }

// lay puts a file on a disk, synced.
func lay(p *power.Power, name, bytes string) {
	p.Create(name)
	p.Append(name, bytes)
	p.Sync(name)
}

// with is a power over a disk with one file.
func with(name, bytes string) *power.Power {
	p := on(api.MaxQuota)
	lay(p, name, bytes)
	return p
}

// off is a power that is off, over a disk with these states.
func off(l ...api.State) *power.Power {
	p := on(10000)
	for _, s := range l {
		lay(p, file(s.Frame), textOf(s))
	}
	p.Blow()
	return p
}

// files is what a disk has: of each file its name, its bytes, and how many of them are synced.
func files(d *disk.Disk) string {
	var l []string
	for _, name := range d.List() {
		s, _ := d.Read(name)
		l = append(l, one(name, s, d.Synced(name)))
	}
	return strings.Join(l, ", ")
}

// one is what files tells of one file.
func one(name, bytes string, synced int) string { return fmt.Sprintf("%s %x %d", name, bytes, synced) }

// whole is what files tells of the file of a state that was written.
func whole(s api.State) string { return one(file(s.Frame), textOf(s), len(textOf(s))) }

// TestExamples holds the chapter's table.
func TestExamples(t *testing.T) {
	s := plain(5)
	p := on(1000)
	fails(t, "nothing there", p, 5, api.ErrNone)
	equal(t, "Write", checkpoint.Write(p, s), api.OK)
	loadsTo(t, "then", p, 5, s, api.OK)
	equal(t, "Write again", checkpoint.Write(p, s), api.OK)
	equal(t, "writes", p.Writes(), 4)
	newestIs(t, "the second one", p, []uint64{7, 5}, s, 1, api.OK)
	newestIs(t, "not there", p, []uint64{7}, api.State{}, 0, api.ErrNone)
	newestIs(t, "none", p, nil, api.State{}, 0, api.ErrNone)
	newestIs(t, "none", p, []uint64{}, api.State{}, 0, api.ErrNone)
	text, _ := p.Read(file(5))
	for b := range 256 {
		refuses(t, "a further byte", text+string([]byte{byte(b)}), 5, api.ErrForm)
	}
	p.Append(file(5), "x")
	fails(t, "a further byte", p, 5, api.ErrForm)
	refuses(t, "the name of frame 6", text, 6, api.ErrForm)
	s.Players[0].Health = 0
	equal(t, "Write with Health 0", checkpoint.Write(on(1000), s), api.ErrForm)
}

// TestText: P18.1: the bytes of a text, written out, and the names of the files.
func TestText(t *testing.T) {
	s := shooting(0x0102030405060708, 1)
	s.Seed, s.Score = 0x1112131415161718, [2]uint16{0x0203, 9}
	rest := "\x08\x07\x06\x05\x04\x03\x02\x01" + "\x18\x17\x16\x15\x14\x13\x12\x11" +
		"\x00\x20\x00\x00" + "\x00\x38\x00\x00" + "\x00\x00\x00\x00" + "\x00\x00\x00\x00" + "\x64\x00\x00" +
		"\x00\xd0\x00\x00" + "\x00\x38\x00\x00" + "\x00\x00\x00\x00" + "\x00\x00\x00\x00" + "\x64\x00\x01" +
		"\x01" + "\x00\x00\x00\x00" + "\x07\x00\x00\x00" + "\xf7\xff\xff\xff" + "\x00\x00\x00\x00" + "\x00\x01" +
		"\x03\x02\x09\x00"
	sum := uint64(14695981039346656037)
	for i := range len(rest) {
		sum = (sum ^ uint64(rest[i])) * 1099511628211
	}
	text := framed("\x08\x07\x06\x05\x04\x03\x02\x01" + string(binary.LittleEndian.AppendUint64(nil, sum)) + rest)
	equal(t, "of the model", textOf(s), text)
	p := on(1000)
	equal(t, "Write", checkpoint.Write(p, s), api.OK)
	equal(t, "the disk", files(p.Disk()), one("c0102030405060708", text, len(text)))
	for f, name := range map[uint64]string{0: "c0000000000000000", 1: "c0000000000000001", 258: "c0000000000000102", last: "cffffffffffffffff"} {
		p := on(1000)
		equal(t, "Write", checkpoint.Write(p, plain(f)), api.OK)
		equal(t, "the names", strings.Join(p.List(), " "), name)
		p = power.New(disk.New(1000), 1, []int{1})
		equal(t, "Write", checkpoint.Write(p, plain(f)), api.ErrDown)
		equal(t, "the names", strings.Join(p.Disk().List(), " "), name+".new")
	}
}

// TestWrite: P18.1, P18.4: one state after the other: four writes each; its file has its text, synced; the others stay.
func TestWrite(t *testing.T) {
	r := rand.New(rand.NewSource(1))
	p := on(100000)
	lay(p, "a", "xyz")
	p.Append("a", "w")
	lay(p, "manifest", "")
	writes := p.Writes()
	all := some()
	for range 40 {
		all = append(all, anyState(r, r.Uint64()>>r.Intn(64)))
	}
	want := []string{one("a", "xyzw", 3), one("manifest", "", 0)}
	var states []api.State
	for _, s := range all {
		f := s.Frame
		if slices.ContainsFunc(states, func(o api.State) bool { return o.Frame == f }) {
			continue
		}
		fails(t, "ahead of it", p, f, api.ErrNone)
		equal(t, "Write", checkpoint.Write(p, s), api.OK)
		writes += 4
		equal(t, "writes", p.Writes(), writes)
		states = append(states, s)
		want = append(want, whole(s))
		slices.Sort(want)
		equal(t, "the disk", files(p.Disk()), strings.Join(want, ", "))
		for _, o := range states {
			loadsTo(t, "then", p, o.Frame, o, api.OK)
		}
	}
}

// TestWriteNotValid: P18.1: a state that is not valid is refused, and nothing is asked of the power: not even whether it is on, or there, or has its file.
func TestWriteNotValid(t *testing.T) {
	for _, f := range []uint64{0, 1, 5, last} {
		for i, s := range spoilt(f) {
			what := fmt.Sprintf("Write of the state %d of frame %d", i, f)
			for _, p := range []*power.Power{nil, {}, off(), off(plain(f)), on(1), on(1000), with(file(f), "x"), with(file(f), textOf(plain(f)))} {
				writes, before := p.Writes(), files(p.Disk())
				equal(t, what, checkpoint.Write(p, s), api.ErrForm)
				equal(t, what+": writes", p.Writes(), writes)
				equal(t, what+": the disk", files(p.Disk()), before)
			}
			p := power.New(disk.New(1000), 3, []int{1})
			lay(p, fresh(f), "x") // the next write is that of the fuse
			before := files(p.Disk())
			equal(t, what, checkpoint.Write(p, s), api.ErrForm)
			equal(t, what+": writes", p.Writes(), 3)
			equal(t, what+": off", p.Down(), false)
			equal(t, what+": the disk", files(p.Disk()), before)
		}
	}
}

// TestWriteThere: P18.1: with a file of that name nothing is done, whatever the file has, and whether there is a fresh one beside it.
func TestWriteThere(t *testing.T) {
	for _, s := range some() {
		text, other := textOf(s), s
		other.Seed++
		for _, has := range []string{"", "x", text, text[:20], text + "x", textOf(other)} {
			for _, left := range []string{"none", "", "left", text} {
				p := with(file(s.Frame), has)
				lay(p, "a", "x")
				if left != "none" {
					lay(p, fresh(s.Frame), left)
					p.Append(fresh(s.Frame), "tail")
				}
				p = power.New(p.Disk(), 0, []int{1}) // the first write would be that of the fuse
				before := files(p.Disk())
				then, thenE := checkpoint.Load(p, s.Frame)
				for range 3 {
					equal(t, "Write", checkpoint.Write(p, s), api.OK)
				}
				equal(t, "writes", p.Writes(), 0)
				equal(t, "off", p.Down(), false)
				equal(t, "the disk", files(p.Disk()), before)
				loadsTo(t, "as before", p, s.Frame, then, thenE)
			}
		}
	}
}

// TestWriteThereUnsynced: P18.1: nor is the file synced, or its room asked for.
func TestWriteThereUnsynced(t *testing.T) {
	s := plain(5)
	p := on(3)
	p.Create(file(5))
	p.Append(file(5), "xyz")
	equal(t, "Write", checkpoint.Write(p, s), api.OK)
	equal(t, "the disk", files(p.Disk()), one(file(5), "xyz", 0))
	equal(t, "writes", p.Writes(), 2)
}

// TestWriteWithFresh: P18.1: a fresh file that was left there, whatever its bytes, is removed first, and nothing of it stays.
func TestWriteWithFresh(t *testing.T) {
	for _, s := range some() {
		text := textOf(s)
		for _, left := range []string{"", "x", text[:len(text)-1], text, text + "x", strings.Repeat("z", 700)} {
			p := on(1000)
			lay(p, fresh(s.Frame), left)
			p.Append(fresh(s.Frame), "y")
			writes := p.Writes()
			fails(t, "a fresh file alone", p, s.Frame, api.ErrNone)
			equal(t, "Write", checkpoint.Write(p, s), api.OK)
			equal(t, "writes", p.Writes(), writes+5)
			equal(t, "the disk", files(p.Disk()), whole(s))
			loadsTo(t, "then", p, s.Frame, s, api.OK)
		}
	}
}

// TestWriteOtherNames: P18.1: a file whose name only resembles those of the state is neither taken for its file, nor for its fresh one.
func TestWriteOtherNames(t *testing.T) {
	for _, name := range []string{
		"c0000000000000006", "c0000000000000006.new", "c0000000000000004.new", "c000000000000000", "c00000000000000005", "c5", "s0000000000000005", "s0000000000000005.new",
		"c0000000000000005.ne", "c0000000000000005.new0", "c0000000000000005.new.new", "c0000000000000005.", "ac0000000000000005", "ac0000000000000005.new", "manifest", "manifest.new", ".new", "c5000000000000000",
	} {
		p := on(1000)
		lay(p, name, "x")
		equal(t, "Write beside "+name, checkpoint.Write(p, plain(5)), api.OK)
		equal(t, "writes beside "+name, p.Writes(), 3+4)
		s, e := p.Read(name)
		equal(t, name+" stays", s, "x")
		equal(t, name+" is there", e, api.OK)
		loadsTo(t, "beside "+name, p, 5, plain(5), api.OK)
	}
}

// TestWriteOff: P18.1: a power that is nil, that New did not return, whose disk New did not return, or that is off: its error, and nothing is done.
func TestWriteOff(t *testing.T) {
	for _, s := range some() {
		equal(t, "nil", checkpoint.Write(nil, s), api.ErrNil)
		equal(t, "no power of New", checkpoint.Write(&power.Power{}, s), api.ErrNil)
		equal(t, "no disk of New", checkpoint.Write(power.New(&disk.Disk{}, -1, nil), s), api.ErrNil)
		for _, p := range []*power.Power{off(), off(s), off(plain(77))} {
			before, writes := files(p.Disk()), p.Writes()
			equal(t, "off", checkpoint.Write(p, s), api.ErrDown)
			equal(t, "the disk", files(p.Disk()), before)
			equal(t, "writes", p.Writes(), writes)
		}
	}
}

// TestWriteFullOfBytes: P18.1: with a byte too few, Append returns ErrFull, and nothing is done behind it: a fresh file without bytes is left. The next Write that fits removes it.
func TestWriteFullOfBytes(t *testing.T) {
	for _, s := range some() {
		n := len(textOf(s))
		for quota := 10; quota <= 10+n+1; quota++ {
			p := on(quota)
			lay(p, "a", strings.Repeat("x", 10))
			ahead := files(p.Disk())
			if quota >= 10+n {
				equal(t, "Write", checkpoint.Write(p, s), api.OK)
				equal(t, "the disk", files(p.Disk()), ahead+", "+whole(s))
				continue
			}
			equal(t, "Write", checkpoint.Write(p, s), api.ErrFull)
			equal(t, "writes", p.Writes(), 3+2)
			equal(t, "the disk", files(p.Disk()), ahead+", "+one(fresh(s.Frame), "", 0))
			fails(t, "after it", p, s.Frame, api.ErrNone)
			equal(t, "Write again", checkpoint.Write(p, s), api.ErrFull)
			equal(t, "writes", p.Writes(), 3+2+3)
			p.Remove("a")
			if quota >= n {
				equal(t, "Write with more room", checkpoint.Write(p, s), api.OK)
				equal(t, "the disk", files(p.Disk()), whole(s))
			}
		}
	}
}

// TestWriteRoomOfFresh: P18.1: what a fresh file takes is free again ahead of Append.
func TestWriteRoomOfFresh(t *testing.T) {
	for _, s := range some() {
		n := len(textOf(s))
		p := on(n)
		lay(p, fresh(s.Frame), strings.Repeat("x", n))
		equal(t, "Write", checkpoint.Write(p, s), api.OK)
		equal(t, "the disk", files(p.Disk()), whole(s))
	}
}

// TestWriteFullOfFiles: P18.1: with 64 files, Create returns ErrFull, and nothing is done behind it; but if one of them is the fresh one, it is removed first.
func TestWriteFullOfFiles(t *testing.T) {
	for _, left := range []bool{false, true} {
		p := on(1000)
		if left {
			p.Create(fresh(5))
		}
		for i := 0; len(p.List()) < api.MaxFiles; i++ {
			p.Create(fmt.Sprint(i))
		}
		before, writes := files(p.Disk()), p.Writes()
		if left {
			equal(t, "Write", checkpoint.Write(p, plain(5)), api.OK)
			equal(t, "writes", p.Writes(), writes+5)
			equal(t, "files", len(p.List()), api.MaxFiles)
			loadsTo(t, "after it", p, 5, plain(5), api.OK)
			continue
		}
		equal(t, "Write", checkpoint.Write(p, plain(5)), api.ErrFull)
		equal(t, "writes", p.Writes(), writes+1)
		equal(t, "the disk", files(p.Disk()), before)
	}
}

// TestWriteGoesOff: P18.1: the power goes off at each write, which is done or not: ErrDown, the calls ahead of it were made, and none behind it. Of the fresh file's tail some bytes are kept.
func TestWriteGoesOff(t *testing.T) {
	for _, s := range some() {
		text, ahead := textOf(s), one("a", "xyz", 3)
		for _, kept := range []int{0, 1, 6, 22, len(text) - 1, len(text)} {
			stages := []string{ // ahead of each write, and behind the last one, after a crash
				ahead + ", " + one(fresh(s.Frame), "left", 4),
				ahead,
				ahead + ", " + one(fresh(s.Frame), "", 0),
				ahead + ", " + one(fresh(s.Frame), text[:kept], kept),
				ahead + ", " + one(fresh(s.Frame), text, len(text)),
				ahead + ", " + whole(s),
			}
			for i := range len(stages) - 1 {
				for done := range 2 {
					p := power.New(disk.New(1000), 6+i, []int{done, kept})
					lay(p, "a", "xyz")
					lay(p, fresh(s.Frame), "left")
					what := fmt.Sprintf("write %d, done %d, %d kept", i, done, kept)
					equal(t, what, checkpoint.Write(p, s), api.ErrDown)
					equal(t, what+": off", p.Down(), true)
					equal(t, what+": writes", p.Writes(), 6+i+1)
					equal(t, what+": the disk", files(p.Disk()), stages[i+done])
					if i+done == len(stages)-1 {
						loadsTo(t, what, again(p), s.Frame, s, api.OK)
					} else {
						fails(t, what, again(p), s.Frame, api.ErrNone)
					}
				}
			}
		}
	}
}

// anyDisk has checkpoints, fresh ones, and other files, or not, whole or torn; now and then it is full of files.
func anyDisk(r *rand.Rand) *disk.Disk {
	d := disk.New(r.Intn(1200) + 1)
	for _, name := range []string{file(3), fresh(3), file(4), fresh(4), "a", "d", "manifest"} {
		if r.Intn(3) == 0 {
			text := textOf(anyState(r, uint64(r.Intn(2)+3)))
			d.Create(name)
			if r.Intn(2) == 0 {
				text = text[:r.Intn(len(text))]
			}
			d.Append(name, text)
			if r.Intn(2) == 0 {
				d.Sync(name)
			}
			d.Append(name, strings.Repeat("x", r.Intn(5)*r.Intn(2)))
		}
	}
	if r.Intn(8) == 0 {
		for i := range api.MaxFiles {
			d.Create(fmt.Sprint(i))
		}
	}
	return d
}

// TestWriteAsModel: P18.1 at many disks, with many fuses: the same error, the same writes, the same disk as by the chapter's words.
func TestWriteAsModel(t *testing.T) {
	r := rand.New(rand.NewSource(2))
	errors := map[api.Errno]int{}
	for range 10000 {
		d := anyDisk(r)
		fuse, keep := r.Intn(10)-2, []int{r.Intn(300), r.Intn(300), r.Intn(300)}[:r.Intn(4)]
		p, twin := power.New(d, fuse, keep), power.New(d.Copy(), fuse, keep)
		for range r.Intn(3) + 1 {
			s := anyState(r, uint64(r.Intn(2)+3))
			if r.Intn(8) == 0 {
				l := spoilt(s.Frame)
				s = l[r.Intn(len(l))]
			}
			e, want := checkpoint.Write(p, s), written(twin, s)
			errors[e]++
			equal(t, "Write", e, want)
			equal(t, "writes", p.Writes(), twin.Writes())
			equal(t, "off", p.Down(), twin.Down())
			equal(t, "the disk", files(p.Disk()), files(twin.Disk()))
		}
	}
	for _, e := range []api.Errno{api.OK, api.ErrForm, api.ErrDown, api.ErrFull} {
		if errors[e] < 100 {
			t.Errorf("the error %d only %d times", e, errors[e])
		}
	}
}

// TestLoad: P18.2: the file's bytes count, synced or not, whatever else there is; nothing is written.
func TestLoad(t *testing.T) {
	for _, s := range some() {
		f, text := s.Frame, textOf(s)
		p := on(10000)
		lay(p, fresh(f), text)
		lay(p, file(f+1), text)
		lay(p, file(f-1), text)
		lay(p, "manifest", text)
		fails(t, "other files alone", p, f, api.ErrNone)
		fails(t, "of another frame", p, f+1, api.ErrForm)
		fails(t, "of another frame", p, f-1, api.ErrForm)
		p.Create(file(f))
		fails(t, "a file without bytes", p, f, api.ErrTorn)
		for i := range len(text) - 1 {
			p.Append(file(f), text[i:i+1])
			fails(t, "a file that is torn", p, f, api.ErrTorn)
		}
		p.Append(file(f), text[len(text)-1:])
		writes, before := p.Writes(), files(p.Disk())
		loadsTo(t, "a file that is not synced", p, f, s, api.OK)
		equal(t, "writes", p.Writes(), writes)
		equal(t, "the disk", files(p.Disk()), before)
		p.Append(file(f), "\x00")
		fails(t, "a byte more", p, f, api.ErrForm)
	}
}

// TestLoadOff: P18.2: a power that is nil, that New did not return, whose disk New did not return, or that is off, whether the file is there or not, whatever it has.
func TestLoadOff(t *testing.T) {
	for _, f := range []uint64{0, 1, 5, last} {
		fails(t, "nil", nil, f, api.ErrNil)
		fails(t, "no power of New", &power.Power{}, f, api.ErrNil)
		fails(t, "no disk of New", power.New(&disk.Disk{}, -1, nil), f, api.ErrNil)
		fails(t, "off, without the file", off(), f, api.ErrDown)
		p := off(plain(f))
		fails(t, "off", p, f, api.ErrDown)
		loadsTo(t, "its disk with another power", again(p), f, plain(f), api.OK)
		p = with(file(f), "x")
		p.Blow()
		fails(t, "off, with a file that is torn", p, f, api.ErrDown)
	}
}

// TestLoadMore: P18.2: anything behind the frame, also the same frame once more, and a torn one; and anything ahead of it.
func TestLoadMore(t *testing.T) {
	for _, s := range some() {
		f, text := s.Frame, textOf(s)
		for _, more := range []string{"\x00", "\xff", text, text[:7], framed(""), strings.Repeat("\x00", 6), strings.Repeat("\xff", 60000)} {
			refuses(t, "more", text+more, f, api.ErrForm)
		}
		refuses(t, "an empty frame ahead", framed("")+text, f, api.ErrForm)
		if e := asModel(t, "a byte ahead", "\x00"+text, f); e == api.OK {
			t.Errorf("a byte ahead: OK")
		}
	}
}

// TestLoadTurned: P18.2: one byte turned, at each place, to each other value.
func TestLoadTurned(t *testing.T) {
	for _, s := range []api.State{plain(5), shooting(last, 8)} {
		text := textOf(s)
		for at := range len(text) {
			for by := 1; by < 256; by++ {
				b := []byte(text)
				b[at] ^= byte(by)
				e := asModel(t, "turned", string(b), s.Frame)
				if at >= 2 && e != api.ErrSum || e == api.OK || e == api.ErrForm {
					t.Fatalf("byte %d turned by %d: %d", at, by, e)
				}
			}
		}
	}
}

// TestLoadTurnedInFrame: P18.2: one byte of the payload turned, at each place, to each other value, in a frame whose checksum is right: never a state.
func TestLoadTurnedInFrame(t *testing.T) {
	for _, s := range []api.State{plain(0), plain(5), shooting(last, 2)} {
		b := encoding(s)
		payload := payloadOf(s.Frame, hash(b), b)
		errors := map[api.Errno]int{}
		for at := range len(payload) {
			for by := 1; by < 256; by++ {
				p := []byte(payload)
				p[at] ^= byte(by)
				e := asModel(t, "turned", framed(string(p)), s.Frame)
				errors[e]++
				inDigest, inFrame := at >= 8 && at < 16, at < 8 || at >= 16 && at < 24
				if e == api.OK || inDigest && e != api.ErrSum || inFrame && e != api.ErrForm {
					t.Fatalf("byte %d turned by %d: %d", at, by, e)
				}
			}
		}
		if errors[api.ErrForm] < 1000 || errors[api.ErrSum] < 1000 || errors[api.ErrTorn] == 0 {
			t.Errorf("how often which error: %v", errors)
		}
	}
}

// TestLoadLengths: P18.2: a frame that is whole, but whose payload is shorter than that of a text, by each number of bytes, or longer.
func TestLoadLengths(t *testing.T) {
	for _, s := range some() {
		b := encoding(s)
		payload := payloadOf(s.Frame, hash(b), b)
		for n := range len(payload) {
			refuses(t, "shorter", framed(payload[:n]), s.Frame, api.ErrTorn)
			refuses(t, "shorter, and more behind it", framed(payload[:n])+"x", s.Frame, api.ErrForm)
		}
		for n := range 17 {
			refuses(t, "zeros", framed(strings.Repeat("\x00", n)), s.Frame, api.ErrTorn)
		}
		for _, n := range []int{1, 2, 16, api.MaxPayload - len(payload)} {
			refuses(t, "longer", framed(payload+strings.Repeat("\x00", n)), s.Frame, api.ErrForm)
			// A digest that is right for these bytes does not make them a state.
			longer := b + strings.Repeat("\x00", n)
			refuses(t, "longer", framed(payloadOf(s.Frame, hash(longer), longer)), s.Frame, api.ErrForm)
		}
		refuses(t, "too long", framed(strings.Repeat("\x00", api.MaxPayload+1)), s.Frame, api.ErrLong)
	}
}

// TestLoadNotValid: P18.2: a text of which all is right, but that its state is not valid, or has an encoding that is too long.
func TestLoadNotValid(t *testing.T) {
	for _, f := range []uint64{0, 1, 5, last} {
		for i, s := range spoilt(f) {
			e := api.ErrForm
			if len(encoding(s)) > 4096-digest {
				e = api.ErrLong
			}
			refuses(t, fmt.Sprint("the state ", i), textOf(s), f, e)
		}
	}
	// The number of shots is a var, whose errors are its own.
	for shots, e := range map[string]api.Errno{"\x80\x00": api.ErrForm, "\xff\xff\xff\xff\xff\xff\xff\xff\xff\x02": api.ErrLong, "\x80": api.ErrTorn, "\x08": api.ErrTorn, "\x09": api.ErrForm} {
		b := encoding(plain(5))[:54] + shots
		refuses(t, "shots", framed(payloadOf(5, hash(b), b)), 5, e)
	}
}

// TestLoadOtherFrame: P18.2: the Frame at the beginning, that of the state, and that of the name: all three are one, or it is ErrForm, whatever the digest is.
func TestLoadOtherFrame(t *testing.T) {
	all := []uint64{0, 1, 5, 6, 1 << 32, last - 1, last}
	for _, name := range all {
		for _, first := range all {
			for _, inState := range all {
				s := plain(inState)
				b := encoding(s)
				for _, by := range []uint64{0, 1, 1 << 63} {
					text, what := framed(payloadOf(first, hash(b)^by, b)), fmt.Sprint(name, first, inState, by)
					switch {
					case first != name || inState != name:
						refuses(t, what, text, name, api.ErrForm)
					case by != 0:
						refuses(t, what, text, name, api.ErrSum)
					default:
						loadsTo(t, what, with(file(name), text), name, s, api.OK)
					}
				}
			}
		}
	}
}

// TestLoadOtherDigest: P18.2: each bit of the digest, and the digests of other bytes.
func TestLoadOtherDigest(t *testing.T) {
	for _, s := range some() {
		b := encoding(s)
		for bit := range 64 {
			refuses(t, "a bit", framed(payloadOf(s.Frame, hash(b)^1<<bit, b)), s.Frame, api.ErrSum)
		}
		other := s
		other.Seed ^= 1
		for _, sum := range []uint64{0, 1, last, hash(""), hash(encoding(other)), hash(payloadOf(s.Frame, 0, b))} {
			refuses(t, "another one", framed(payloadOf(s.Frame, sum, b)), s.Frame, api.ErrSum)
		}
	}
}

// TestLoadFirstError: P18.2: whatever is wrong together, the error is that of the first one.
func TestLoadFirstError(t *testing.T) {
	good := encoding(plain(5))
	bad := plain(5)
	bad.Players[0].Health = 0
	rests := []struct { // what follows the 16 bytes, and state.Take's error of it
		bytes string
		e     api.Errno
	}{{good, api.OK}, {encoding(plain(6)), api.OK}, {good[:58], api.ErrTorn}, {"", api.ErrTorn}, {good + "\x00", api.ErrForm}, {encoding(bad), api.ErrForm}, {good[:54] + "\xff\xff\xff\xff\xff\xff\xff\xff\xff\x02", api.ErrLong}}
	for _, rest := range rests {
		for set := range 1 << 5 {
			first, sum := uint64(5), hash(rest.bytes)
			otherFirst, otherSum, short, more, otherCheck := set&1 != 0, set&2 != 0, set&4 != 0, set&8 != 0, set&16 != 0
			if otherFirst {
				first = 6
			}
			if otherSum {
				sum ^= 1
			}
			payload := payloadOf(first, sum, rest.bytes)
			if short {
				payload = payload[:15]
			}
			text := []byte(framed(payload))
			if otherCheck {
				text[5] ^= 1
			}
			what := fmt.Sprintf("rest of %d bytes, set %d", len(rest.bytes), set)
			refuses(t, what+", torn", string(text[:len(text)-1]), 5, api.ErrTorn)
			if more {
				text = append(text, 'x')
			}
			refuses(t, what+", long", "\x01\x10"+string(text[2:]), 5, api.ErrLong)
			inState := len(rest.bytes) > 0 && rest.bytes[0] != 5
			switch {
			case otherCheck:
				refuses(t, what, string(text), 5, api.ErrSum)
			case more:
				refuses(t, what, string(text), 5, api.ErrForm)
			case short:
				refuses(t, what, string(text), 5, api.ErrTorn)
			case rest.e != api.OK:
				refuses(t, what, string(text), 5, rest.e)
			case otherFirst || inState:
				refuses(t, what, string(text), 5, api.ErrForm)
			case otherSum:
				refuses(t, what, string(text), 5, api.ErrSum)
			default:
				loadsTo(t, what, with(file(5), string(text)), 5, plain(5), api.OK)
			}
		}
	}
}

// TestLoadAny: P18.2 at many files: any bytes, any payloads, and texts that were changed by a little.
func TestLoadAny(t *testing.T) {
	r := rand.New(rand.NewSource(3))
	errors := map[api.Errno]int{}
	for range 20000 {
		b := make([]byte, r.Intn(100))
		r.Read(b)
		s := anyState(r, uint64(r.Intn(3)))
		e := []byte(encoding(s))
		if r.Intn(4) == 0 {
			e[r.Intn(len(e))] ^= 1 << r.Intn(8)
		}
		payload := []byte(payloadOf(uint64(r.Intn(3)), hash(string(e))^uint64(r.Intn(4)/3), string(e)))
		text := []byte(framed(string(payload[:len(payload)-r.Intn(2)*r.Intn(2)*r.Intn(len(payload))])))
		if r.Intn(8) == 0 {
			text[r.Intn(len(text))] ^= 1 << r.Intn(8)
		}
		for _, s := range []string{string(b), framed(string(b)), string(text), string(text[:r.Intn(len(text)+1)]), textOf(s)} {
			errors[asModel(t, "any", s, uint64(r.Intn(3)))]++
		}
	}
	for _, e := range []api.Errno{api.OK, api.ErrForm, api.ErrTorn, api.ErrSum, api.ErrLong} {
		if errors[e] < 100 {
			t.Errorf("the error %d only %d times", e, errors[e])
		}
	}
}

// TestNewest: P18.3: each list of up to four frames, of which some can be loaded, and some cannot, each for another reason.
func TestNewest(t *testing.T) {
	p := on(10000)
	good := map[uint64]api.State{0: plain(0), 5: shooting(5, 2), last: shooting(last, 8)}
	for f, s := range good {
		lay(p, file(f), textOf(s))
	}
	lay(p, file(1), textOf(plain(1))+"x")
	lay(p, file(2), textOf(plain(5)))
	lay(p, file(3), "")
	lay(p, fresh(4), textOf(plain(4)))
	lay(p, file(6), framed(payloadOf(6, 0, encoding(plain(6)))))
	lay(p, file(7), "\x01\x10"+textOf(plain(7))[2:])
	for f, e := range map[uint64]api.Errno{1: api.ErrForm, 2: api.ErrForm, 3: api.ErrTorn, 4: api.ErrNone, 6: api.ErrSum, 7: api.ErrLong} {
		fails(t, "ahead of Newest", p, f, e)
	}
	before, writes := files(p.Disk()), p.Writes()
	frames := []uint64{0, 5, last, 1, 2, 3, 4, 6, 7}
	lists, from := [][]uint64{nil}, 0
	for range 4 {
		for n := len(lists); from < n; from++ {
			for _, f := range frames {
				lists = append(lists, append(slices.Clone(lists[from]), f))
			}
		}
	}
	found := map[int]int{}
	for _, l := range lists {
		at := slices.IndexFunc(l, func(f uint64) bool { return f == 0 || f == 5 || f == last })
		found[at]++
		if at < 0 {
			newestIs(t, "none", p, l, api.State{}, 0, api.ErrNone)
		} else {
			newestIs(t, "some", p, l, good[l[at]], at, api.OK)
		}
	}
	equal(t, "lists of which none can be loaded, and of which the last of four can", fmt.Sprint(found[-1], found[3]), fmt.Sprint(1+6+36+216+1296, 216*3))
	equal(t, "the disk", files(p.Disk()), before)
	equal(t, "writes", p.Writes(), writes)
}

// TestNewestTwice: P18.3: of a frame that is in the list twice, or of several that can be loaded, the first one is told, not that of the greatest frame.
func TestNewestTwice(t *testing.T) {
	p := on(10000)
	for _, f := range []uint64{3, 5} {
		equal(t, "Write", checkpoint.Write(p, plain(f)), api.OK)
	}
	newestIs(t, "twice", p, []uint64{5, 5}, plain(5), 0, api.OK)
	newestIs(t, "twice", p, []uint64{7, 5, 5}, plain(5), 1, api.OK)
	newestIs(t, "twice", p, []uint64{7, 7, 3, 5, 3}, plain(3), 2, api.OK)
	newestIs(t, "not there, twice", p, []uint64{7, 7}, api.State{}, 0, api.ErrNone)
	newestIs(t, "ascending", p, []uint64{3, 5}, plain(3), 0, api.OK)
	newestIs(t, "descending", p, []uint64{5, 3}, plain(5), 0, api.OK)
	long := make([]uint64, 20000)
	newestIs(t, "many that are not there", p, long, api.State{}, 0, api.ErrNone)
	long[len(long)-1] = 3
	newestIs(t, "the last one of many", p, long, plain(3), len(long)-1, api.OK)
}

// TestNewestOff: P18.3: a power that is off cannot load a frame, which is ErrDown; without frames it is not asked. One that is nil, or that New did not return, returns another error for each frame, so that none can be loaded.
func TestNewestOff(t *testing.T) {
	p := off(plain(5), plain(3))
	for _, l := range [][]uint64{{5}, {7}, {7, 5}, {5, 3}, {7, 8, 9}, {5, 5}} {
		newestIs(t, "off", p, l, api.State{}, 0, api.ErrDown)
		newestIs(t, "nil", nil, l, api.State{}, 0, api.ErrNone)
		newestIs(t, "no power of New", &power.Power{}, l, api.State{}, 0, api.ErrNone)
		newestIs(t, "no disk of New", power.New(&disk.Disk{}, -1, nil), l, api.State{}, 0, api.ErrNone)
	}
	for _, p := range []*power.Power{p, nil, {}, on(1)} {
		newestIs(t, "no frames", p, nil, api.State{}, 0, api.ErrNone)
		newestIs(t, "no frames", p, []uint64{}, api.State{}, 0, api.ErrNone)
	}
	newestIs(t, "its disk with another power", again(p), []uint64{7, 3, 5}, plain(3), 1, api.OK)
}

// ahead are disks on which all is synced: each with nothing, a text, a text of another state, or a spoilt one in the file of frame f, with and without a fresh file, with and without other files. There is space for all of it.
func ahead(r *rand.Rand, f uint64) []*disk.Disk {
	var l []*disk.Disk
	for _, has := range []string{"none", "", "x", textOf(anyState(r, f)), textOf(anyState(r, f+1)), textOf(anyState(r, f)) + "x"} {
		for _, left := range []string{"none", "", "left", textOf(anyState(r, f))} {
			for others := range 2 {
				p := on(10000)
				if has != "none" {
					lay(p, file(f), has)
				}
				if left != "none" {
					lay(p, fresh(f), left)
					p.Append(fresh(f), "tail")
				}
				if others == 1 {
					lay(p, file(f+1), textOf(anyState(r, f+1)))
					lay(p, file(f-1), textOf(anyState(r, f)))
					lay(p, file(f+2), textOf(anyState(r, f+2)))
					lay(p, fresh(f+3), textOf(anyState(r, f+3)))
					lay(p, "manifest", strings.Repeat("m", r.Intn(800)))
				}
				l = append(l, p.Disk())
			}
		}
	}
	return l
}

// loaded is what a disk that is switched on again gives for f and the frames beside it.
func loaded(d *disk.Disk, f uint64) (l []api.State, errors []api.Errno) {
	for i := range uint64(6) {
		s, e := checkpoint.Load(power.New(d, -1, nil), f+i-1)
		l, errors = append(l, s), append(errors, e)
	}
	return l, errors
}

// fits is whether there is room for the text of s, if its fresh file is gone.
func fits(d *disk.Disk, s api.State, quota int) bool {
	c := d.Copy()
	c.Remove(fresh(s.Frame))
	return c.Used()+len(textOf(s)) <= quota
}

// TestPowerOff: P18.4, P18.5: the power goes off at each write, with several numbers of kept bytes: what is loaded is what was there, or the state; after OK the state, if there was no file; for other frames what was there; and a Write that is made again succeeds.
func TestPowerOff(t *testing.T) {
	r := rand.New(rand.NewSource(4))
	outcomes := map[string]int{}
	for _, f := range []uint64{0, 1, 2, 1000, last - 3, last} {
		for _, d := range ahead(r, f) {
			before, beforeE := loaded(d, f)
			for fuse := -1; fuse < 6; fuse++ {
				for _, number := range []int{0, 1, 2, 3, 6, 7, 16, 17, 22, 23, 40, 81, 100, 101, 150, 225, -1, -2, -7} {
					s := anyState(r, f)
					p := power.New(d.Copy(), fuse, []int{number, number / 2, number})
					e := checkpoint.Write(p, s)
					p.Blow()
					what := fmt.Sprintf("frame %d, fuse %d, number %d: Write %d", f, fuse, number, e)
					isNew := holdsAfter(t, what, p.Disk(), s, e, before, beforeE)
					outcomes[fmt.Sprint(e, isNew)]++
					e = checkpoint.Write(again(p), s)
					equal(t, what+", again", e, api.OK)
					holdsAfter(t, what+", again", p.Disk(), s, e, before, beforeE)
				}
			}
		}
	}
	for _, o := range []string{"0 true", "0 false", "8 true", "8 false"} {
		if outcomes[o] < 100 {
			t.Errorf("%s only %d times", o, outcomes[o])
		}
	}
}

// holdsAfter holds what the disk has after a Write of s that returned e, against what it had before, and returns whether it has s now.
func holdsAfter(t *testing.T, what string, d *disk.Disk, s api.State, e api.Errno, before []api.State, beforeE []api.Errno) bool {
	t.Helper()
	after, afterE := loaded(d, s.Frame)
	isOld := afterE[1] == beforeE[1] && state.Same(after[1], before[1])
	isNew := afterE[1] == api.OK && state.Same(after[1], s)
	wasThere := beforeE[1] != api.ErrNone
	if wasThere && (!isOld || e != api.OK) || !wasThere && !isNew && (e == api.OK || !isOld) || e != api.OK && e != api.ErrDown && e != api.ErrFull {
		t.Fatalf("%s: then %+v, %d", what, after[1], afterE[1])
	}
	for i := range after {
		if i != 1 && (afterE[i] != beforeE[i] || !state.Same(after[i], before[i])) {
			t.Fatalf("%s: the frame at %d: %+v, %d, not %+v, %d", what, i, after[i], afterE[i], before[i], beforeE[i])
		}
	}
	if e == api.OK && !wasThere {
		equal(t, what+": a fresh file is left", slices.Contains(d.List(), fresh(s.Frame)), false)
	}
	return isNew
}

// TestPowerOffWithoutRoom: P18.5: on disks with little room a Write that is made again returns OK exactly if there is space; if there is none, nothing that is loaded changes.
func TestPowerOffWithoutRoom(t *testing.T) {
	r := rand.New(rand.NewSource(5))
	outcomes := map[api.Errno]int{}
	for range 4000 {
		quota, f := r.Intn(500)+100, uint64(r.Intn(4))
		p := on(quota)
		lay(p, file(f+1), textOf(anyState(r, f+1)))
		if r.Intn(2) == 0 {
			lay(p, fresh(f), strings.Repeat("x", r.Intn(200)))
		}
		before, beforeE := loaded(p.Disk(), f)
		s := anyState(r, f)
		p = power.New(p.Disk(), r.Intn(7)-1, []int{r.Intn(300), r.Intn(300)})
		e := checkpoint.Write(p, s)
		p.Blow()
		isNew := holdsAfter(t, "Write", p.Disk(), s, e, before, beforeE)
		want := api.ErrFull
		if isNew || fits(p.Disk(), s, quota) {
			want = api.OK
		}
		e = checkpoint.Write(again(p), s)
		equal(t, "Write again", e, want)
		holdsAfter(t, "Write again", p.Disk(), s, e, before, beforeE)
		outcomes[e]++
	}
	if outcomes[api.OK] < 100 || outcomes[api.ErrFull] < 100 {
		t.Errorf("outcomes: %v", outcomes)
	}
}

// TestOnceMore: P18.6, DOC.md's rules: what Load and Newest returned is new memory, and what they answer hangs on their arguments and the disk alone.
func TestOnceMore(t *testing.T) {
	s := shooting(5, 8)
	p := on(1000)
	equal(t, "Write", checkpoint.Write(p, s), api.OK)
	for range 3 {
		one, _ := checkpoint.Load(p, 5)
		two, at, _ := checkpoint.Newest(p, []uint64{9, 5})
		equal(t, "index", at, 1)
		clear(one.Shots[:cap(one.Shots)])
		equal(t, "the other one stays", state.Same(two, s), true)
		clear(two.Shots[:cap(two.Shots)])
		loadsTo(t, "once more", p, 5, s, api.OK)
		newestIs(t, "once more", p, []uint64{9, 5}, s, 1, api.OK)
		fails(t, "not there", p, 9, api.ErrNone)
	}
}

// TestArgumentsStay: P18.6: Write and Newest neither change nor keep their lists, also where these have room behind them.
func TestArgumentsStay(t *testing.T) {
	room := shooting(5, 8).Shots
	before := slices.Clone(room)
	s, want := shooting(5, 3), shooting(5, 3)
	s.Shots = room[:3]
	p := on(1000)
	equal(t, "Write", checkpoint.Write(p, s), api.OK)
	equal(t, "the shots stay", slices.Equal(room, before), true)
	clear(room)
	loadsTo(t, "what was written stays", p, 5, want, api.OK)
	frames := []uint64{9, 8, 5, 4, 3, 2}
	newestIs(t, "a piece", p, frames[:3], want, 2, api.OK)
	newestIs(t, "a shorter piece", p, frames[:2], api.State{}, 0, api.ErrNone)
	equal(t, "the frames stay", slices.Equal(frames, []uint64{9, 8, 5, 4, 3, 2}), true)
	clear(frames)
	newestIs(t, "another list", p, []uint64{5}, want, 0, api.OK)
}
