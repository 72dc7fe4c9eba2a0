package journal_test

import (
	"encoding/binary"
	"fmt"
	"hash/crc32"
	"math"
	"math/rand"
	"slices"
	"strings"
	"testing"

	"hindcast/api"
	"hindcast/disk"
	"hindcast/journal"
	"hindcast/manifest"
	"hindcast/power"
	"hindcast/record"
	"hindcast/segment"
)

const last = math.MaxUint64 // of all numbers, epochs, and frames

func own(f uint64, i api.Input) record.Record { return record.Record{Kind: 1, Frame: f, Own: i} }

func sure(f uint64, q api.Pair) record.Record { return record.Record{Kind: 2, Frame: f, Pair: q} }

func head(n, first, epoch uint64, player uint8) record.Record {
	return record.Record{Kind: 3, Segment: n, First: first, Epoch: epoch, Player: player}
}

// pairAt is the pair that frame f has, unless a test says otherwise; its inputs are unlike, and so are those of neighbours.
func pairAt(f uint64) api.Pair {
	return api.Pair{api.Input((5*f + 1) % 64), api.Input((11*f + 2) % 64)}
}

func pairsOf(from, count uint64) []api.Pair {
	var l []api.Pair
	for f := from; f < count; f++ {
		l = append(l, pairAt(f))
	}
	return l
}

func inputsOf(player uint8, from, owned uint64) []api.Input {
	var l []api.Input
	for f := from; f < owned; f++ {
		l = append(l, pairAt(f)[player])
	}
	return l
}

// said are the records that a new segment has behind its Head: all pairs, each behind its own input, and then the own inputs.
func said(player uint8, from, count, owned uint64) []record.Record {
	var l []record.Record
	for f := from; f < owned; f++ {
		l = append(l, own(f, pairAt(f)[player]))
		if f < count {
			l = append(l, sure(f, pairAt(f)))
		}
	}
	return l
}

// whole is a segment: its Head, and what is said behind it.
func whole(n, epoch uint64, player uint8, from, count, owned uint64) []record.Record {
	return append([]record.Record{head(n, from, epoch, player)}, said(player, from, count, owned)...)
}

func numbers(l ...uint64) string {
	var b []byte
	for _, n := range l {
		b = binary.LittleEndian.AppendUint64(b, n)
	}
	return string(b)
}

// framed is chapter 4's frame.
func framed(payload string) string {
	length := binary.LittleEndian.AppendUint16(nil, uint16(len(payload)))
	sum := crc32.ChecksumIEEE(append(slices.Clone(length), payload...))
	return string(binary.LittleEndian.AppendUint32(length, sum)) + payload
}

// bytesOf is chapter 16's bytes of records, one after the other.
func bytesOf(l ...record.Record) string {
	var b strings.Builder
	for _, r := range l {
		switch r.Kind {
		case 1:
			b.WriteString(framed("\x01" + numbers(r.Frame) + string([]byte{byte(r.Own)})))
		case 2:
			b.WriteString(framed("\x02" + numbers(r.Frame) + string([]byte{byte(r.Pair[0]), byte(r.Pair[1])})))
		case 3:
			b.WriteString(framed("\x03" + numbers(r.Segment, r.First, r.Epoch) + string([]byte{r.Player})))
		}
	}
	return b.String()
}

// made is a manifest; segments are pairs of N and First.
func made(epoch uint64, player uint8, segments [][2]uint64, checks ...uint64) manifest.Manifest {
	m := manifest.Manifest{Epoch: epoch, Player: player, Checks: checks}
	for _, s := range segments {
		m.Segments = append(m.Segments, manifest.Part{N: s[0], First: s[1]})
	}
	return m
}

// single is a manifest with one segment.
func single(epoch uint64, player uint8, n, first uint64, checks ...uint64) manifest.Manifest {
	return made(epoch, player, [][2]uint64{{n, first}}, checks...)
}

// textOf is chapter 17's encoding.
func textOf(m manifest.Manifest) string {
	s := numbers(m.Epoch) + string([]byte{m.Player, byte(len(m.Segments))})
	for _, part := range m.Segments {
		s += numbers(part.N, part.First)
	}
	return framed(s + string([]byte{byte(len(m.Checks))}) + numbers(m.Checks...))
}

func sameManifest(a, b manifest.Manifest) bool {
	return a.Epoch == b.Epoch && a.Player == b.Player && slices.Equal(a.Segments, b.Segments) && slices.Equal(a.Checks, b.Checks)
}

func segmentFile(n uint64) string { return fmt.Sprintf("s%016x", n) }

func checkFile(f uint64) string { return fmt.Sprintf("c%016x", f) }

// equal holds one value to another one.
func equal[T comparable](t *testing.T, what string, got, want T) {
	t.Helper()
	if got != want {
		t.Errorf("%s: %#v, not %#v", what, got, want)
	}
}

func sameFound(a, b journal.Found) bool {
	return a.Epoch == b.Epoch && a.Fresh == b.Fresh && a.From == b.From &&
		slices.Equal(a.Checks, b.Checks) && slices.Equal(a.Pairs, b.Pairs) && slices.Equal(a.Own, b.Own)
}

func foundIs(t *testing.T, what string, got, want journal.Found) {
	t.Helper()
	if !sameFound(got, want) {
		t.Errorf("%s: found %+v, not %+v", what, got, want)
	}
}

// state is what a journal tells of itself.
type state struct {
	count, synced, owned, ownSynced uint64
	due                             bool
}

func stateOf(j *journal.Journal) state {
	return state{j.Count(), j.Synced(), j.Owned(), j.OwnSynced(), j.Due()}
}

func manifestIs(t *testing.T, what string, j *journal.Journal, want manifest.Manifest) {
	t.Helper()
	if got := j.Manifest(); !sameManifest(got, want) {
		t.Errorf("%s: Manifest %+v, not %+v", what, got, want)
	}
}

// on is a power that stays on.
func on(d *disk.Disk) *power.Power { return power.New(d, -1, nil) }

func big() *disk.Disk { return disk.New(api.MaxQuota) }

// lay puts a file on a disk, synced.
func lay(d *disk.Disk, name, bytes string) {
	d.Create(name)
	d.Append(name, bytes)
	d.Sync(name)
}

// laid is a disk with a manifest, and for each of its segments a file of these records.
func laid(m manifest.Manifest, segments ...[]record.Record) *disk.Disk {
	d := big()
	lay(d, "manifest", textOf(m))
	for i, l := range segments {
		lay(d, segmentFile(m.Segments[i].N), bytesOf(l...))
	}
	return d
}

// one is what files tells of one file.
func one(name, bytes string, synced int) string { return fmt.Sprintf("%s %x %d", name, bytes, synced) }

// files is what a disk has: of each file its name, its bytes, and how many of them are synced.
func files(d *disk.Disk) string {
	var l []string
	for _, name := range d.List() {
		s, _ := d.Read(name)
		l = append(l, one(name, s, d.Synced(name)))
	}
	return strings.Join(l, "\n")
}

// synced is what files tells of files that are synced; texts are names and bytes by turns.
func synced(texts ...string) string {
	var l []string
	for i := 0; i < len(texts); i += 2 {
		l = append(l, one(texts[i], texts[i+1], len(texts[i+1])))
	}
	slices.Sort(l)
	return strings.Join(l, "\n")
}

// opened is a journal on a disk, and what it found; its power stays on.
func opened(t *testing.T, d *disk.Disk, player uint8, rows int) (*journal.Journal, journal.Found) {
	t.Helper()
	return openedBy(t, on(d), player, rows)
}

func openedBy(t *testing.T, p *power.Power, player uint8, rows int) (*journal.Journal, journal.Found) {
	t.Helper()
	j, f, e := journal.Open(p, player, rows)
	if e != api.OK || j == nil {
		t.Fatalf("Open for player %d with %d rows: %v, %d", player, rows, j, e)
	}
	return j, f
}

// refuses holds that Open returns e, no journal, and nothing found.
func refuses(t *testing.T, what string, p *power.Power, player uint8, rows int, e api.Errno) {
	t.Helper()
	j, f, got := journal.Open(p, player, rows)
	equal(t, what+": Open", got, e)
	equal(t, what+": the journal", j, nil)
	foundIs(t, what, f, journal.Found{})
}

// says lets a journal have the own inputs below owned, and the pairs below count, each as soon as it may.
func says(t *testing.T, j *journal.Journal, player uint8, count, owned uint64) {
	t.Helper()
	for j.Count() < count || j.Owned() < owned {
		if f := j.Count(); f < count && f < j.Owned() {
			equal(t, fmt.Sprint("Sure of ", f), j.Sure(f, pairAt(f)), api.OK)
			equal(t, "Count", j.Count(), f+1)
		} else {
			f = j.Owned()
			equal(t, fmt.Sprint("Own of ", f), j.Own(f, pairAt(f)[player]), api.OK)
			equal(t, "Owned", j.Owned(), f+1)
		}
		if t.Failed() {
			t.FailNow()
		}
	}
}

// TestExamples holds the chapter's table.
func TestExamples(t *testing.T) {
	d := disk.New(5000)
	j, f := opened(t, d, 0, 4)
	foundIs(t, "a fresh disk", f, journal.Found{Epoch: 1, Fresh: true})
	for i, x := range []struct{ got, want api.Errno }{
		{j.Own(0, 5), api.OK},
		{j.Sure(0, api.Pair{5, 6}), api.OK},
		{j.Sure(1, api.Pair{}), api.ErrOrder},
		{j.Own(2, 0), api.ErrOrder},
		{j.Own(0, 0), api.ErrOrder},
	} {
		equal(t, fmt.Sprint("the call ", i), x.got, x.want)
	}
	equal(t, "ahead of Sync", stateOf(j), state{count: 1, synced: 0, owned: 1})
	equal(t, "Sync", j.Sync(), api.OK)
	equal(t, "behind Sync", stateOf(j), state{count: 1, synced: 1, owned: 1, ownSynced: 1})
	equal(t, "Own", j.Own(1, 7), api.OK)
	equal(t, "Sure", j.Sure(1, api.Pair{8, 9}), api.ErrClash)
	for _, keep := range []int{0, 16} {
		torn := d.Copy()
		torn.Crash([]int{keep})
		_, f = opened(t, torn, 0, 4)
		want := journal.Found{Epoch: 2, Pairs: []api.Pair{{5, 6}}}
		if keep == 16 {
			want.Own = []api.Input{7}
		}
		foundIs(t, fmt.Sprint("again with ", keep), f, want)
	}
	for _, x := range []struct {
		player uint8
		rows   int
		e      api.Errno
	}{{0, 3, api.ErrArg}, {2, 4, api.ErrArg}, {1, 4, api.ErrClash}} {
		refuses(t, fmt.Sprintf("rows %d, player %d", x.rows, x.player), on(d), x.player, x.rows, x.e)
	}
}

// TestExampleOfTwentyFrames holds the chapter's table: the pairs below the floor are left out.
func TestExampleOfTwentyFrames(t *testing.T) {
	d := disk.New(5000)
	j, _ := opened(t, d, 0, 4)
	for f := range uint64(20) {
		equal(t, "Own", j.Own(f, 5), api.OK)
		equal(t, "Sure", j.Sure(f, api.Pair{5, 6}), api.OK)
	}
	equal(t, "Sync", j.Sync(), api.OK)
	equal(t, "Keep", j.Keep(0, []uint64{9, 4}), api.OK)
	_, f := opened(t, d, 0, 4)
	foundIs(t, "again", f, journal.Found{Epoch: 2, Checks: []uint64{9, 4}, From: 4, Pairs: slices.Repeat([]api.Pair{{5, 6}}, 16)})
}

// TestOpenArguments: P19.1: ErrArg comes ahead of everything that the power or the disk has to say, and nothing is done.
func TestOpenArguments(t *testing.T) {
	off := on(laid(single(1, 0, 1, 0), whole(1, 1, 0, 0, 2, 3)))
	off.Blow()
	stray := big()
	lay(stray, "stray", "x")
	powers := []*power.Power{nil, {}, off, on(stray), on(laid(single(last, 1, 1, 0))), power.New(big(), 0, nil)}
	for _, p := range powers {
		before := files(p.Disk())
		for _, player := range []uint8{2, 3, 128, 255} {
			for _, rows := range []int{3, 4, 32, 33} {
				refuses(t, fmt.Sprintf("player %d, rows %d", player, rows), p, player, rows, api.ErrArg)
			}
		}
		for _, rows := range []int{3, 33, 0, 1, -1, -4, 34, 64, 260, math.MaxInt, math.MinInt} {
			for _, player := range []uint8{0, 1, 2} {
				refuses(t, fmt.Sprintf("player %d, rows %d", player, rows), p, player, rows, api.ErrArg)
			}
		}
		equal(t, "writes", p.Writes(), 0)
		equal(t, "the disk", files(p.Disk()), before)
	}
	for player := range uint8(2) {
		for rows := 4; rows <= 32; rows++ {
			opened(t, big(), player, rows)
		}
	}
}

// TestOpenWithoutPower: P19.1: the error of a power that is nil, that New did not return, or that is off.
func TestOpenWithoutPower(t *testing.T) {
	refuses(t, "nil", nil, 0, 4, api.ErrNil)
	refuses(t, "no power of New", &power.Power{}, 0, 4, api.ErrNil)
	for _, d := range []*disk.Disk{big(), laid(single(1, 0, 1, 0), whole(1, 1, 0, 0, 2, 3)), laid(single(1, 1, 1, 0))} {
		lay(d, "stray", "x")
		p := on(d)
		p.Blow()
		before := files(d)
		refuses(t, "off", p, 0, 4, api.ErrDown)
		equal(t, "writes", p.Writes(), 0)
		equal(t, "the disk", files(d), before)
	}
}

// TestOpenFresh: P19.1: a fresh disk, whatever files it has that do not count.
func TestOpenFresh(t *testing.T) {
	for player := range uint8(2) {
		for _, strays := range [][]string{
			nil,
			{"a"},
			{segmentFile(1), segmentFile(2), checkFile(0), "manifest.new", "manifest.old", "zzz"},
			{segmentFile(0), segmentFile(1) + ".new", segmentFile(last), "s1", "manifesu", ".", "-"},
		} {
			d := big()
			for _, name := range strays {
				lay(d, name, bytesOf(whole(1, 1, player, 0, 2, 3)...))
				d.Append(name, "tail")
			}
			p := on(d)
			j, f := openedBy(t, p, player, 4)
			m := single(1, player, 1, 0)
			foundIs(t, "fresh", f, journal.Found{Epoch: 1, Fresh: true})
			equal(t, "its state", stateOf(j), state{})
			manifestIs(t, "fresh", j, m)
			equal(t, "writes", p.Writes(), len(strays)+3+4)
			equal(t, "the disk", files(d), synced("manifest", textOf(m), segmentFile(1), bytesOf(head(1, 0, 1, player))))
		}
	}
}

// TestOpenManifest: P19.1: manifests for which there is an error: it is returned ahead of any clearing.
func TestOpenManifest(t *testing.T) {
	text := textOf(single(1, 0, 1, 0))
	for _, x := range []struct {
		what, text string
		e          api.Errno
	}{
		{"another player", textOf(single(1, 1, 1, 0)), api.ErrClash},
		{"another player, the last epoch but one", textOf(single(last-1, 1, 1, 0)), api.ErrClash},
		{"another player, the last epoch", textOf(single(last, 1, 1, 0)), api.ErrClash},
		{"the last epoch", textOf(single(last, 0, 1, 0)), api.ErrFull},
		{"no bytes", "", api.ErrTorn},
		{"all bytes but one", text[:len(text)-1], api.ErrTorn},
		{"a byte more", text + "x", api.ErrForm},
		{"the epoch 0", textOf(single(0, 0, 1, 0)), api.ErrForm},
		{"player 2", textOf(single(1, 2, 1, 0)), api.ErrForm},
		{"no segments", textOf(made(1, 0, nil)), api.ErrForm},
		{"a byte that is turned", text[:10] + "\xff" + text[11:], api.ErrSum},
		{"a length that is too great", "\xff\xff" + text[2:], api.ErrLong},
	} {
		d := big()
		lay(d, "manifest", x.text)
		lay(d, segmentFile(1), bytesOf(whole(1, 1, 0, 0, 2, 3)...))
		lay(d, "stray", "x")
		before, p := files(d), power.New(d, 0, nil)
		refuses(t, x.what, p, 0, 4, x.e)
		equal(t, x.what+": writes", p.Writes(), 0)
		equal(t, x.what+": the disk", files(d), before)
	}
}

// TestOpenEpochs: P19.1: the epoch of a disk with a manifest is one more, up to the last one; the next Open is refused.
func TestOpenEpochs(t *testing.T) {
	for _, epoch := range []uint64{1, 2, 255, 256, 1 << 32, last - 2, last - 1} {
		d := laid(single(epoch, 1, 6, 3), whole(6, epoch, 1, 3, 5, 6))
		j, f := opened(t, d, 1, 4)
		want := journal.Found{Epoch: epoch + 1, From: 3, Pairs: pairsOf(3, 5), Own: inputsOf(1, 5, 6)}
		foundIs(t, fmt.Sprint("the epoch ", epoch), f, want)
		manifestIs(t, "then", j, single(epoch+1, 1, 7, 3))
		if epoch == last-1 {
			refuses(t, "the last one", on(d), 1, 4, api.ErrFull)
			continue
		}
		want.Epoch++
		_, f = opened(t, d, 1, 4)
		foundIs(t, "once more", f, want)
	}
}

// TestOpenLeavesItsFiles: P19.1: the new segment with all that is known, in order, the manifest that names it alone, and the Checks' files are what stays.
func TestOpenLeavesItsFiles(t *testing.T) {
	for player := range uint8(2) {
		m := made(5, player, [][2]uint64{{3, 10}, {7, 12}}, 12, 10)
		d := laid(m, whole(3, 4, player, 10, 12, 12), whole(7, 5, player, 12, 14, 17))
		for _, name := range []string{checkFile(12), checkFile(10), checkFile(11), checkFile(12) + ".new", "manifest.new", segmentFile(5), segmentFile(8), segmentFile(7) + ".new", "a", "zzz"} {
			lay(d, name, name)
		}
		p := on(d)
		j, f := openedBy(t, p, player, 4)
		foundIs(t, "two segments", f, journal.Found{Epoch: 6, Checks: []uint64{12, 10}, From: 10, Pairs: pairsOf(10, 14), Own: inputsOf(player, 14, 17)})
		equal(t, "its state", stateOf(j), state{14, 14, 17, 17, false})
		then := single(6, player, 8, 10, 12, 10)
		manifestIs(t, "then", j, then)
		equal(t, "writes", p.Writes(), 8+3+4+2)
		equal(t, "the disk", files(d), synced("manifest", textOf(then),
			segmentFile(8), bytesOf(whole(8, 6, player, 10, 14, 17)...),
			checkFile(12), checkFile(12), checkFile(10), checkFile(10)))
	}
}

// TestOpenGoesOff: P19.1: the writes of Open, in their order: the disk ahead of each of them, and behind the last one.
func TestOpenGoesOff(t *testing.T) {
	old := made(5, 0, [][2]uint64{{3, 10}, {7, 12}}, 12)
	then := single(6, 0, 8, 10, 12)
	three, seven := bytesOf(whole(3, 4, 0, 10, 12, 12)...), bytesOf(whole(7, 5, 0, 12, 14, 17)...)
	eight := bytesOf(whole(8, 6, 0, 10, 14, 17)...)
	check := []string{checkFile(12), "state"}
	kept := append([]string{"manifest", textOf(old), segmentFile(3), three, segmentFile(7), seven}, check...)
	with := func(more ...string) string { return synced(append(slices.Clone(kept), more...)...) }
	begun := []string{segmentFile(8), eight}
	swapped := append([]string{"manifest", textOf(then), segmentFile(8), eight}, check...)
	stages := []string{
		with("manifest.new", "x", segmentFile(8), "left", "z", ""),
		with(segmentFile(8), "left", "z", ""),
		with("z", ""),
		with(),
		with(segmentFile(8), ""),
		with(segmentFile(8), ""), // nothing of the tail is kept
		with(begun...),
		with(append([]string{"manifest.new", ""}, begun...)...),
		with(append([]string{"manifest.new", ""}, begun...)...),
		with(append([]string{"manifest.new", textOf(then)}, begun...)...),
		synced(append(slices.Clone(swapped), segmentFile(3), three, segmentFile(7), seven)...),
		synced(append(slices.Clone(swapped), segmentFile(7), seven)...),
		synced(swapped...),
	}
	for fuse := range len(stages) - 1 {
		for done := range 2 {
			d := laid(old, whole(3, 4, 0, 10, 12, 12), whole(7, 5, 0, 12, 14, 17))
			lay(d, checkFile(12), "state")
			lay(d, "manifest.new", "x")
			lay(d, segmentFile(8), "left")
			lay(d, "z", "")
			p := power.New(d, fuse, []int{done, 0, 0, 0, 0, 0, 0, 0}) // the number of done is that of the first file, which has no tail
			what := fmt.Sprintf("write %d, done %d", fuse, done)
			refuses(t, what, p, 0, 4, api.ErrDown)
			equal(t, what+": the disk", files(d), stages[fuse+done])
		}
	}
}

// complete are the records whose bytes are among the first n.
func complete(l []record.Record, n int) []record.Record {
	for i := range l {
		if len(bytesOf(l[:i+1]...)) > n {
			return l[:i]
		}
	}
	return l
}

// contentsOf is what segments of these records say, by the chapter's definition.
func contentsOf(segments ...[]record.Record) journal.Found {
	var f journal.Found
	var count uint64
	for i, l := range segments {
		if len(l) == 0 || l[0].Kind != 3 || i > 0 && l[0].First != count {
			break
		}
		if i == 0 {
			f.From, count = l[0].First, l[0].First
		}
		inputs := map[uint64]api.Input{}
		for _, r := range l[1:] {
			if r.Kind == 1 {
				inputs[r.Frame] = r.Own
			} else {
				f.Pairs = append(f.Pairs, r.Pair)
				count++
			}
		}
		f.Own = nil
		for at, known := count, true; known; at++ {
			var own api.Input
			if own, known = inputs[at]; known {
				f.Own = append(f.Own, own)
			}
		}
	}
	return f
}

// reads holds what Open finds on a disk with one manifest, and then once more.
func reads(t *testing.T, what string, d *disk.Disk, player uint8, epoch uint64, want journal.Found) {
	t.Helper()
	for range 2 {
		epoch++
		want.Epoch = epoch
		j, f := opened(t, d, player, 4)
		foundIs(t, what, f, want)
		count := want.From + uint64(len(want.Pairs))
		owned := count + uint64(len(want.Own))
		equal(t, what+": its state", stateOf(j), state{count, count, owned, owned, false})
		n := j.Manifest().Segments[0].N
		manifestIs(t, what, j, single(epoch, player, n, want.From, want.Checks...))
		l := []record.Record{head(n, want.From, epoch, player)}
		for i, q := range want.Pairs {
			at := want.From + uint64(i)
			l = append(l, own(at, q[player]), sure(at, q))
		}
		for i, in := range want.Own {
			l = append(l, own(count+uint64(i), in))
		}
		equal(t, what+": the disk", files(d), synced("manifest", textOf(j.Manifest()), segmentFile(n), bytesOf(l...)))
	}
}

// three are segments of the numbers 3, 7 and 9 that follow each other; each but the last one has own inputs ahead of its count.
func three(player uint8) (manifest.Manifest, [][]record.Record) {
	return made(5, player, [][2]uint64{{3, 10}, {7, 12}, {9, 15}}), [][]record.Record{
		whole(3, 4, player, 10, 12, 14), whole(7, 5, player, 12, 15, 16), whole(9, 5, player, 15, 16, 18),
	}
}

// TestContentsTorn: P19.1: a segment that is empty, or torn at each of its bytes: the first one, one in the middle, the last one.
func TestContentsTorn(t *testing.T) {
	for player := range uint8(2) {
		m, segments := three(player)
		for k, l := range segments {
			for n := range len(bytesOf(l...)) + 1 {
				d := laid(m, segments...)
				d.Remove(segmentFile(m.Segments[k].N))
				lay(d, segmentFile(m.Segments[k].N), bytesOf(l...)[:n])
				torn := slices.Clone(segments)
				torn[k] = complete(l, n)
				reads(t, fmt.Sprintf("segment %d of %d bytes", k, n), d, player, 5, contentsOf(torn...))
			}
		}
	}
}

// TestContents: P19.1: what contributes, and what does not, written out.
func TestContents(t *testing.T) {
	m, s := three(0)
	none := journal.Found{}
	first := journal.Found{From: 10, Pairs: pairsOf(10, 12), Own: inputsOf(0, 12, 14)}
	two := journal.Found{From: 10, Pairs: pairsOf(10, 15), Own: inputsOf(0, 15, 16)}
	all := journal.Found{From: 10, Pairs: pairsOf(10, 16), Own: inputsOf(0, 16, 18)}
	for i, x := range []struct {
		segments [3][]record.Record
		want     journal.Found
	}{
		{[3][]record.Record{s[0], s[1], s[2]}, all},
		{[3][]record.Record{nil, s[1], s[2]}, none},
		{[3][]record.Record{s[0], nil, s[2]}, first},
		{[3][]record.Record{s[0], s[1], nil}, two},
		{[3][]record.Record{nil, nil, nil}, none},
		{[3][]record.Record{s[0][1:], s[1], s[2]}, none},
		{[3][]record.Record{s[0], s[1][1:], s[2]}, first},
		{[3][]record.Record{s[0], s[1], s[2][1:]}, two},
		{[3][]record.Record{s[1], s[1], s[2]}, none}, // the Head has the number of another segment
		{[3][]record.Record{s[0], s[0], s[2]}, first},
		{[3][]record.Record{s[0], s[1], s[1]}, two},
		{[3][]record.Record{s[0], whole(7, 5, 0, 11, 12, 13), whole(9, 5, 0, 12, 13, 14)}, first}, // the First is below the count
		{[3][]record.Record{s[0], whole(7, 5, 0, 13, 15, 16), s[2]}, first},                       // the First is above the count
		{[3][]record.Record{s[0], whole(7, 5, 0, 0, 12, 13), whole(9, 5, 0, 12, 13, 14)}, first},
		{[3][]record.Record{s[0], s[1], whole(9, 5, 0, 14, 16, 18)}, two},
		{[3][]record.Record{s[0], s[1], whole(9, 5, 0, 16, 17, 18)}, two},
		{[3][]record.Record{s[0], s[1], whole(9, 5, 0, 10, 16, 18)}, two},
		{[3][]record.Record{{head(3, 0, 1, 0)}, {head(7, 0, 1, 0)}, whole(9, 5, 0, 0, 1, 2)}, journal.Found{Pairs: pairsOf(0, 1), Own: inputsOf(0, 1, 2)}},
		{[3][]record.Record{nil, whole(7, 5, 0, 0, 2, 3), whole(9, 5, 0, 2, 3, 4)}, none}, // there is no count of 0 from which to go on
		{[3][]record.Record{{own(0, 5)}, {head(7, 0, 1, 0)}, whole(9, 5, 0, 0, 3, 4)}, none},
		{[3][]record.Record{{head(3, 0, 1, 0)}, nil, whole(9, 5, 0, 0, 3, 4)}, none},
		{[3][]record.Record{{head(3, 9, 1, 0)}, {head(7, 10, 1, 0)}, s[2]}, journal.Found{From: 9}},
		{[3][]record.Record{{head(3, 9, 1, 0)}, {head(7, 0, 1, 0)}, s[2]}, journal.Found{From: 9}},
		{[3][]record.Record{append(slices.Clone(s[0]), head(3, 10, 4, 0)), s[1], s[2]}, all}, // what does not continue ends the segment, and no more
		{[3][]record.Record{append(slices.Clone(s[0][:5]), sure(13, api.Pair{})), s[1], s[2]}, all},
	} {
		reads(t, fmt.Sprint("the segments ", i), laid(m, x.segments[:]...), 0, 5, x.want)
	}
}

// TestOwnOfTheLastSegment: P19.1: own inputs are those of the last segment that contributes, and of no other one.
func TestOwnOfTheLastSegment(t *testing.T) {
	for player := range uint8(2) {
		m := made(5, player, [][2]uint64{{3, 5}, {7, 7}})
		ahead := append(whole(3, 5, player, 5, 7, 7), own(7, 20), own(8, 21), own(9, 22))
		begun := head(7, 7, 5, player)
		for i, x := range []struct {
			second []record.Record
			own    []api.Input
		}{
			{nil, []api.Input{20, 21, 22}},
			{[]record.Record{head(7, 8, 5, player), own(8, 1)}, []api.Input{20, 21, 22}},
			{[]record.Record{own(7, 1)}, []api.Input{20, 21, 22}},
			{[]record.Record{begun}, nil},
			{[]record.Record{begun, own(7, 30)}, []api.Input{30}},
			{[]record.Record{begun, own(7, 30), own(8, 21)}, []api.Input{30, 21}},
			{[]record.Record{begun, own(7, 30), own(8, 21), own(10, 9)}, []api.Input{30, 21}},
		} {
			reads(t, fmt.Sprint("the second segment ", i), laid(m, ahead, x.second), player, 5, journal.Found{From: 5, Pairs: pairsOf(5, 7), Own: x.own})
		}
	}
}

// TestHeadAloneDetermines: P19.1: neither the First of a manifest's segments nor the Epoch or the Player of a Head is asked for.
func TestHeadAloneDetermines(t *testing.T) {
	_, segments := three(1)
	want := journal.Found{From: 10, Pairs: pairsOf(10, 16), Own: inputsOf(1, 16, 18)}
	for _, firsts := range [][3]uint64{{0, 0, 0}, {10, 12, 15}, {11, 11, 99}, {last, last, last}} {
		m := made(5, 0, [][2]uint64{{3, firsts[0]}, {7, firsts[1]}, {9, firsts[2]}})
		reads(t, fmt.Sprint("the Firsts ", firsts), laid(m, segments...), 0, 5, want)
	}
}

// TestSegmentNotThere: P19.1: the error of Read is returned, also behind a segment that contributes nothing; what was cleared stays cleared.
func TestSegmentNotThere(t *testing.T) {
	m, segments := three(0)
	for k := range segments {
		for _, empty := range []int{-1, 0, 1, 2} {
			d := laid(m, segments...)
			if empty >= 0 {
				d.Remove(segmentFile(m.Segments[empty].N))
				lay(d, segmentFile(m.Segments[empty].N), "")
			}
			d.Remove(segmentFile(m.Segments[k].N))
			before := files(d)
			lay(d, "stray", "x")
			p := on(d)
			refuses(t, fmt.Sprintf("without segment %d, %d empty", k, empty), p, 0, 4, api.ErrNone)
			equal(t, "writes", p.Writes(), 1)
			equal(t, "the disk", files(d), before)
		}
	}
}

// TestFloor: P19.1: which pairs are left out.
func TestFloor(t *testing.T) {
	for _, x := range []struct {
		from, count uint64
		checks      []uint64
		want        uint64
	}{
		{0, 11, []uint64{9, 4}, 0}, {0, 12, []uint64{9, 4}, 0}, {0, 13, []uint64{9, 4}, 1}, {0, 15, []uint64{9, 4}, 3},
		{0, 16, []uint64{9, 4}, 4}, {0, 17, []uint64{9, 4}, 4}, {0, 20, []uint64{9, 4}, 4}, {0, 60, []uint64{9, 4}, 4},
		{3, 20, []uint64{9, 4}, 4}, {4, 20, []uint64{9, 4}, 4}, {5, 20, []uint64{9, 4}, 5}, {9, 20, []uint64{9, 4}, 9},
		{0, 20, nil, 0}, {0, 20, []uint64{9}, 0}, {0, 60, []uint64{60}, 0}, {0, 60, []uint64{1}, 0}, {20, 20, []uint64{9, 4}, 20},
		{0, 0, []uint64{9, 4}, 0}, {0, 1, []uint64{9, 4}, 0}, {0, 11, []uint64{last, last - 1}, 0}, {0, 12, []uint64{last, last - 1}, 0},
		{0, 13, []uint64{last, last - 1}, 1}, {0, 20, []uint64{20, 19}, 8}, {7, 20, []uint64{20, 19}, 8}, {8, 20, []uint64{20, 19}, 8},
		{9, 20, []uint64{20, 19}, 9}, {11, 11, []uint64{10, 9}, 11}, {5, 11, []uint64{8, 7}, 5}, {3, 12, []uint64{8, 7}, 3},
		{0, 20, []uint64{1, 0}, 0}, {0, 20, []uint64{9, 7}, 7}, {0, 20, []uint64{9, 8}, 8}, {0, 21, []uint64{10, 9}, 9}, {0, 20, []uint64{10, 9}, 8},
		{last - 30, last, []uint64{last, last - 1}, last - 12}, {last - 30, last, []uint64{last, last - 20}, last - 20},
		{last - 30, last, []uint64{last - 29, 0}, last - 30}, {last, last, []uint64{last, last - 1}, last},
	} {
		for player := range uint8(2) {
			for ahead := range uint64(13) {
				if x.count > last-ahead || ahead%5 > 2 {
					continue
				}
				d := laid(single(5, player, 9, x.from, x.checks...), whole(9, 5, player, x.from, x.count, x.count+ahead))
				want := journal.Found{Checks: x.checks, From: x.want, Pairs: pairsOf(x.want, x.count), Own: inputsOf(player, x.count, x.count+ahead)}
				reads(t, fmt.Sprintf("from %d to %d, checks %d", x.from, x.count, x.checks), d, player, 5, want)
			}
		}
	}
}

// TestFloorOverSegments: P19.1: the floor is in any of the segments, and whether these contribute decides on the count.
func TestFloorOverSegments(t *testing.T) {
	segments := [][]record.Record{whole(3, 1, 0, 0, 9, 9), whole(4, 1, 0, 9, 18, 19), whole(5, 1, 0, 18, 25, 30)}
	for floor := range uint64(20) {
		m := made(5, 0, [][2]uint64{{3, 0}, {4, 9}, {5, 18}}, 40, floor)
		from := min(floor, 13)
		reads(t, "all", laid(m, segments...), 0, 5, journal.Found{Checks: m.Checks, From: from, Pairs: pairsOf(from, 25), Own: inputsOf(0, 25, 30)})
		from = min(floor, 6)
		reads(t, "two", laid(m, segments[0], segments[1], nil), 0, 5, journal.Found{Checks: m.Checks, From: from, Pairs: pairsOf(from, 18), Own: inputsOf(0, 18, 19)})
		reads(t, "the first one", laid(m, segments[0], nil, segments[2]), 0, 5, journal.Found{Checks: m.Checks, Pairs: pairsOf(0, 9)})
	}
}

// TestOpenNumbers: P19.1: the number of the new segment is the one after the last. The last of all numbers has none: the segment 0 is begun, of which there is no manifest.
func TestOpenNumbers(t *testing.T) {
	for _, n := range []uint64{1, 9, 255, 1 << 40, last - 1} {
		d := laid(made(5, 0, [][2]uint64{{n, 0}}), whole(n, 5, 0, 0, 2, 3))
		j, _ := opened(t, d, 0, 4)
		manifestIs(t, "then", j, single(6, 0, n+1, 0))
		equal(t, "the names", strings.Join(d.List(), " "), "manifest "+segmentFile(n+1))
	}
	d := laid(single(5, 0, last, 0), whole(last, 5, 0, 0, 2, 3))
	before := files(d)
	refuses(t, "the last number", on(d), 0, 4, api.ErrForm)
	d.Remove(segmentFile(0))
	equal(t, "the disk", files(d), before)
}

// TestOpenFull: P19.1: the errors of Begin, of Swap: without room for the segment, or for the manifest.
func TestOpenFull(t *testing.T) {
	m := single(5, 0, 3, 10)
	old, text := bytesOf(whole(3, 5, 0, 10, 12, 13)...), textOf(m)
	begun := bytesOf(whole(4, 6, 0, 10, 12, 13)...)
	for _, room := range []int{0, len(begun) - 1, len(begun), len(begun) + len(text) - 1, len(begun) + len(text)} {
		d := disk.New(len(old) + len(text) + room)
		lay(d, "manifest", text)
		lay(d, segmentFile(3), old)
		if room == len(begun)+len(text) {
			opened(t, d, 0, 4)
			continue
		}
		left := []string{"manifest", text, segmentFile(3), old, segmentFile(4), ""}
		if room >= len(begun) {
			left = append(left[:5], begun, "manifest.new", "")
		}
		refuses(t, fmt.Sprint("room ", room), on(d), 0, 4, api.ErrFull)
		equal(t, "the disk", files(d), synced(left...))
	}
	long := head(3, 0, 5, 0)
	d := laid(made(5, 0, [][2]uint64{{3, 0}, {4, 1900}}), append([]record.Record{long}, said(0, 0, 1900, 1900)...), whole(4, 5, 0, 1900, 2100, 2100))
	refuses(t, "more than a file has room for", on(d), 0, 4, api.ErrFull)
}

// refused holds that a call of a journal returned e, and changed nothing: neither what it tells of itself, nor its disk, nor the number of writes.
func refused(t *testing.T, what string, p *power.Power, j *journal.Journal, e api.Errno, call func() api.Errno) {
	t.Helper()
	before, m, disk, writes := stateOf(j), j.Manifest(), files(p.Disk()), p.Writes()
	equal(t, what, call(), e)
	equal(t, what+": its state", stateOf(j), before)
	manifestIs(t, what, j, m)
	equal(t, what+": the disk", files(p.Disk()), disk)
	equal(t, what+": writes", p.Writes(), writes)
}

// started is a journal on a disk whose only segment begins with that frame, and its power.
func started(t *testing.T, player uint8, first uint64) (*journal.Journal, *power.Power) {
	t.Helper()
	p := on(laid(single(5, player, 9, first), []record.Record{head(9, first, 5, player)}))
	j, _ := openedBy(t, p, player, 4)
	return j, p
}

func theOwn(j *journal.Journal, f uint64, i api.Input) func() api.Errno {
	return func() api.Errno { return j.Own(f, i) }
}

func theSure(j *journal.Journal, f uint64, q api.Pair) func() api.Errno {
	return func() api.Errno { return j.Sure(f, q) }
}

// TestOwn: P19.3: the errors of Own, in their order, and the record that is appended, which is not synced.
func TestOwn(t *testing.T) {
	for player := range uint8(2) {
		for _, first := range []uint64{0, 1, 5, 1 << 40, last - 40} {
			j, p := started(t, player, first)
			says(t, j, player, first+2, first+2)
			text := bytesOf(whole(10, 6, player, first, first, first)...)
			rest := bytesOf(said(player, first, first+2, first+2)...)
			for ahead := range uint64(13) {
				f := first + 2 + ahead
				what := fmt.Sprintf("Own with %d ahead of %d", ahead, first+2)
				for _, wrong := range []uint64{f - 1, f + 1, first + 1, f + 12, first + 1<<63, last, f ^ 1<<32} {
					refused(t, what+", another frame", p, j, api.ErrOrder, theOwn(j, wrong, 5))
				}
				if first > 0 || ahead > 0 {
					refused(t, what+", frame 0", p, j, api.ErrOrder, theOwn(j, 0, 5))
				}
				for _, i := range []api.Input{64, 65, 128, 255} {
					refused(t, what+", no input", p, j, api.ErrArg, theOwn(j, f, i))
					refused(t, what+", no input", p, j, api.ErrArg, theOwn(j, f+1, i))
				}
				if ahead == 12 {
					refused(t, what, p, j, api.ErrFull, theOwn(j, f, 5))
					continue
				}
				i := api.Input(63 - ahead)
				writes := p.Writes()
				equal(t, what, j.Own(f, i), api.OK)
				equal(t, what+": writes", p.Writes(), writes+1)
				rest += bytesOf(own(f, i))
				equal(t, what+": its state", stateOf(j), state{first + 2, first, f + 1, first, true})
				equal(t, what+": the disk", files(p.Disk()), synced("manifest", textOf(j.Manifest()))+"\n"+one(segmentFile(10), text+rest, len(text)))
			}
			f := first + 2
			q := api.Pair{63, 63}
			equal(t, "Sure", j.Sure(f, q), api.OK)
			equal(t, "Own, where there is room for it again", j.Own(f+12, 0), api.OK)
			refused(t, "the next one", p, j, api.ErrFull, theOwn(j, f+13, 0))
		}
	}
}

// TestSure: P19.3: the errors of Sure, in their order, and the record that is appended, which is not synced.
func TestSure(t *testing.T) {
	for player := range uint8(2) {
		for _, first := range []uint64{0, 1, 5, 1 << 40, last - 40} {
			j, p := started(t, player, first)
			refused(t, "nothing owned", p, j, api.ErrOrder, theSure(j, first, pairAt(first)))
			says(t, j, player, first, first+3)
			text := bytesOf(whole(10, 6, player, first, first, first)...)
			rest := bytesOf(said(player, first, first, first+3)...)
			for f := first; f < first+3; f++ {
				what := fmt.Sprintf("Sure of %d", f)
				q := pairAt(f)
				for _, wrong := range []uint64{f - 1, f + 1, f + 2, f + 3, last, f ^ 1<<32} {
					refused(t, what+", another frame", p, j, api.ErrOrder, theSure(j, wrong, q))
					refused(t, what+", another frame", p, j, api.ErrOrder, theSure(j, wrong, api.Pair{q[0] ^ 1, q[1] ^ 1}))
				}
				if f > 0 {
					refused(t, what+", frame 0", p, j, api.ErrOrder, theSure(j, 0, q))
				}
				for _, i := range []api.Input{64, 65, 128, 255} {
					for _, wrong := range []api.Pair{{i, q[1]}, {q[0], i}, {i, i}, {i, q[1] ^ 1}, {q[0] ^ 1, i}} {
						refused(t, what+", no input", p, j, api.ErrArg, theSure(j, f, wrong))
						refused(t, what+", no input", p, j, api.ErrArg, theSure(j, f+1, wrong))
					}
				}
				for i := range api.Input(64) {
					wrong := q
					wrong[1-player] = i // that of the other player may be any
					if wrong[player] ^= 1 + i%63; wrong[player] > 63 {
						wrong[player] = q[player] ^ 32
					}
					refused(t, what+", another own input", p, j, api.ErrClash, theSure(j, f, wrong))
				}
				q[1-player] = api.Input(f % 64)
				writes := p.Writes()
				equal(t, what, j.Sure(f, q), api.OK)
				equal(t, what+": writes", p.Writes(), writes+1)
				rest += bytesOf(sure(f, q))
				equal(t, what+": its state", stateOf(j), state{f + 1, first, first + 3, first, f+1-first+3 >= 4})
				equal(t, what+": the disk", files(p.Disk()), synced("manifest", textOf(j.Manifest()))+"\n"+one(segmentFile(10), text+rest, len(text)))
			}
			refused(t, "the count is owned", p, j, api.ErrOrder, theSure(j, first+3, pairAt(first+3)))
			refused(t, "the count is owned, no input", p, j, api.ErrArg, theSure(j, first+3, api.Pair{64, 0}))
		}
	}
}

// TestLastFrames: P19.3: the last of all frames has no input, also where it is owned; ErrOrder comes ahead of ErrFull.
func TestLastFrames(t *testing.T) {
	for frames := range uint64(14) {
		first := last - frames
		j, p := started(t, 0, first)
		if frames > 12 {
			says(t, j, 0, first+1, first+1)
		}
		for f := j.Owned(); f != last; f++ {
			refused(t, "Own of the last one", p, j, api.ErrOrder, theOwn(j, last, 5))
			equal(t, fmt.Sprint("Own of ", f), j.Own(f, pairAt(f)[0]), api.OK)
		}
		equal(t, "Owned", j.Owned(), last)
		refused(t, "Own of the last one", p, j, api.ErrOrder, theOwn(j, last, 5))
		refused(t, "no input", p, j, api.ErrArg, theOwn(j, last, 64))
		refused(t, "Own of frame 0", p, j, api.ErrOrder, theOwn(j, 0, 5))
		for f := j.Count(); f != last; f++ {
			refused(t, "Sure of the last one", p, j, api.ErrOrder, theSure(j, last, pairAt(last)))
			equal(t, fmt.Sprint("Sure of ", f), j.Sure(f, pairAt(f)), api.OK)
		}
		refused(t, "Sure of the last one", p, j, api.ErrOrder, theSure(j, last, pairAt(last)))
		refused(t, "Own of the last one", p, j, api.ErrOrder, theOwn(j, last, 5))
		equal(t, "Sync", j.Sync(), api.OK)
		equal(t, "Roll", j.Roll(), api.OK)
		equal(t, "its state", stateOf(j), state{last, last, last, last, false})
		_, f := opened(t, p.Disk(), 0, 4)
		foundIs(t, "again", f, journal.Found{Epoch: 7, From: first, Pairs: pairsOf(first, last)})
	}
}

// TestSync: P19.4: one write, by which the open segment is synced, whether there is anything new or not; Synced and OwnSynced are what the count and Owned were then.
func TestSync(t *testing.T) {
	j, p := started(t, 1, 5)
	count, owned := uint64(5), uint64(5)
	for i, x := range [][2]uint64{{5, 5}, {5, 6}, {6, 6}, {6, 18}, {9, 18}, {18, 18}, {18, 18}, {30, 42}} {
		says(t, j, 1, x[0], x[1])
		got := stateOf(j)
		got.due = false
		equal(t, fmt.Sprint("ahead of the Sync ", i), got, state{x[0], count, x[1], owned, false})
		s, _ := p.Read(segmentFile(10))
		want := files(p.Disk())
		want = want[:strings.LastIndex(want, "\n")+1] + one(segmentFile(10), s, len(s))
		writes := p.Writes()
		equal(t, "Sync", j.Sync(), api.OK)
		equal(t, "writes", p.Writes(), writes+1)
		count, owned = x[0], x[1]
		got = stateOf(j)
		got.due = false
		equal(t, fmt.Sprint("behind the Sync ", i), got, state{count, count, owned, owned, false})
		equal(t, "the disk", files(p.Disk()), want)
	}
}

// TestDue: P19.4: ahead of, at and behind rows: what counts are the records that were appended to the open segment, not those that it was begun with, nor what was refused.
func TestDue(t *testing.T) {
	for _, rows := range []int{4, 5, 6, 31, 32} {
		d := laid(single(5, 0, 9, 0), whole(9, 5, 0, 0, 40, 45))
		p := on(d)
		j, _ := openedBy(t, p, 0, rows)
		for range 3 {
			for n := range rows + 3 {
				equal(t, fmt.Sprintf("Due with %d records of %d", n, rows), j.Due(), n >= rows)
				refused(t, "a frame too far", p, j, api.ErrOrder, theOwn(j, j.Owned()+1, 5))
				refused(t, "a frame too far", p, j, api.ErrOrder, theSure(j, j.Count()+1, api.Pair{}))
				if j.Owned() < j.Count()+6 {
					says(t, j, 0, j.Count(), j.Owned()+1)
				} else {
					says(t, j, 0, j.Count()+1, j.Owned())
				}
			}
			equal(t, "Sync", j.Sync(), api.OK)
			equal(t, "Keep", j.Keep(j.Count(), nil), api.OK)
			equal(t, "Due behind Sync and Keep", j.Due(), true)
			equal(t, "Roll", j.Roll(), api.OK)
		}
		equal(t, "Due behind Roll", j.Due(), false)
	}
}

// TestRoll: P19.5: a Sync of the open segment; a new one with the own inputs from the count on; then the manifest that has it behind the others. From then on it is the open one.
func TestRoll(t *testing.T) {
	for player := range uint8(2) {
		for ahead := range uint64(13) {
			p := on(laid(single(5, player, 9, 5, 8, 6), whole(9, 5, player, 5, 7, 7)))
			lay(p.Disk(), checkFile(8), "state")
			j, _ := openedBy(t, p, player, 4)
			m := j.Manifest()
			says(t, j, player, 8, 8+ahead)
			writes := p.Writes()
			equal(t, "Roll", j.Roll(), api.OK)
			equal(t, "writes", p.Writes(), writes+1+3+4)
			equal(t, "its state", stateOf(j), state{8, 8, 8 + ahead, 8 + ahead, false})
			m.Segments = append(m.Segments, manifest.Part{N: 11, First: 8})
			manifestIs(t, "then", j, m)
			before := bytesOf(whole(10, 6, player, 5, 8, 8+ahead)...)
			begun := bytesOf(whole(11, 6, player, 8, 8, 8+ahead)...)
			have := []string{"manifest", textOf(m), checkFile(8), "state", segmentFile(10), before, segmentFile(11), begun}
			equal(t, "the disk", files(p.Disk()), synced(have...))
			says(t, j, player, 9, 9+ahead/2)
			s, _ := p.Read(segmentFile(11))
			equal(t, "it is the open one", len(s) > len(begun), true)
			have[7] = s
			equal(t, "Sync", j.Sync(), api.OK)
			equal(t, "the disk", files(p.Disk()), synced(have...))
			_, f := opened(t, p.Disk(), player, 4)
			foundIs(t, "again", f, journal.Found{Epoch: 7, Checks: []uint64{8, 6}, From: 5, Pairs: pairsOf(5, 9), Own: inputsOf(player, 9, max(8+ahead, 9+ahead/2))})
		}
	}
}

// TestRollFull: P19.5: with 11 segments there is room for one more, with 12 there is none: ErrFull, and nothing is done, nor is the journal broken.
func TestRollFull(t *testing.T) {
	j, p := started(t, 0, 5)
	for n := range uint64(11) {
		equal(t, fmt.Sprintf("Roll with %d segments", len(j.Manifest().Segments)), j.Roll(), api.OK)
		equal(t, "segments", len(j.Manifest().Segments), int(n)+2)
		says(t, j, 0, 6+2*n, 7+3*n/2+n)
	}
	for range 3 {
		refused(t, "Roll with 12 segments", p, j, api.ErrFull, j.Roll)
		says(t, j, 0, j.Count()+1, j.Count()+2)
	}
	equal(t, "Keep", j.Keep(6, nil), api.OK)
	equal(t, "segments", len(j.Manifest().Segments), 10)
	equal(t, "Roll", j.Roll(), api.OK)
	equal(t, "Roll", j.Roll(), api.OK)
	refused(t, "Roll with 12 segments again", p, j, api.ErrFull, j.Roll)
}

// TestRollBeyondLastNumber: P19.5: the segment after the one with the last of all numbers is none: Swap refuses it, and the journal is broken.
func TestRollBeyondLastNumber(t *testing.T) {
	d := laid(single(5, 0, last-1, 5), whole(last-1, 5, 0, 5, 7, 7))
	j, _ := opened(t, d, 0, 4)
	manifestIs(t, "the last number", j, single(6, 0, last, 5))
	says(t, j, 0, 7, 9)
	equal(t, "Roll", j.Roll(), api.ErrForm)
	broken(t, "the last number", j, state{7, 7, 9, 9, false})
}

// rolled is a journal with four segments, whose Firsts are 5, 7, 7 and 10, and its power.
func rolled(t *testing.T) (*journal.Journal, *power.Power) {
	t.Helper()
	j, p := started(t, 0, 5)
	for _, count := range []uint64{7, 7, 10} {
		says(t, j, 0, count, count+2)
		equal(t, "Roll", j.Roll(), api.OK)
	}
	says(t, j, 0, 12, 15)
	return j, p
}

// TestKeep: P19.6: which segments stay, with below at, below and above the First of each; their files, and those of the Checks, alone are left. What is in the open segment is not synced by it.
func TestKeep(t *testing.T) {
	for _, checks := range [][]uint64{nil, {}, {12}, {12, 5}, {last, 0}} {
		for below, stay := range map[uint64]int{0: 4, 4: 4, 5: 4, 6: 4, 7: 2, 8: 2, 9: 2, 10: 1, 11: 1, 12: 1, 13: 1, 1 << 40: 1, last: 1} {
			what := fmt.Sprintf("Keep from %d on, checks %d", below, checks)
			j, p := rolled(t)
			parts := []manifest.Part{{N: 10, First: 5}, {N: 11, First: 7}, {N: 12, First: 7}, {N: 13, First: 10}}
			manifestIs(t, what+", ahead of it", j, manifest.Manifest{Epoch: 6, Segments: parts})
			m := manifest.Manifest{Epoch: 6, Segments: parts[4-stay:], Checks: checks}
			want := []string{one("manifest", textOf(m), len(textOf(m)))}
			for _, part := range m.Segments {
				s, _ := p.Read(segmentFile(part.N))
				want = append(want, one(segmentFile(part.N), s, p.Disk().Synced(segmentFile(part.N))))
			}
			for _, f := range []uint64{0, 5, 12, last} {
				lay(p.Disk(), checkFile(f), "state")
				if slices.Contains(checks, f) {
					want = append(want, one(checkFile(f), "state", 5))
				}
			}
			lay(p.Disk(), "manifest.new", "left")
			lay(p.Disk(), segmentFile(14), "left")
			slices.Sort(want)
			before, writes := stateOf(j), p.Writes()
			equal(t, what, j.Keep(below, checks), api.OK)
			equal(t, what+": writes", p.Writes(), writes+5+(4-stay)+(4-len(checks))+1)
			equal(t, what+": its state", stateOf(j), before)
			manifestIs(t, what, j, m)
			equal(t, what+": the disk", files(p.Disk()), strings.Join(want, "\n"))
			_, f := opened(t, p.Disk(), 0, 4)
			from := m.Segments[0].First
			foundIs(t, what+": again", f, journal.Found{Epoch: 7, Checks: checks, From: from, Pairs: pairsOf(from, 12), Own: inputsOf(0, 12, 15)})
		}
	}
}

// TestKeepNotValid: P19.6: Checks of which there is no manifest: ErrForm, and nothing is done; the next Keep is not hindered.
func TestKeepNotValid(t *testing.T) {
	j, p := rolled(t)
	lay(p.Disk(), "stray", "x")
	for _, checks := range [][]uint64{{5, 5}, {4, 5}, {0, 0}, {0, last}, {last, last}, {9, 4, 1}, {1, 2, 3}, {9, 4, 1, 0}, make([]uint64, 300)} {
		for _, below := range []uint64{0, 5, 7, 10, last} {
			refused(t, fmt.Sprintf("Keep with %d checks", len(checks)), p, j, api.ErrForm, func() api.Errno { return j.Keep(below, checks) })
		}
	}
	equal(t, "Keep", j.Keep(7, []uint64{9, 4}), api.OK)
	equal(t, "segments", len(j.Manifest().Segments), 2)
}

// TestKeepOfOneSegment: P19.6: the last segment stays, whatever below is; then only the Checks change.
func TestKeepOfOneSegment(t *testing.T) {
	j, p := started(t, 1, 5)
	says(t, j, 1, 6, 7)
	for i, below := range []uint64{0, 4, 5, 6, last, 0} {
		checks := []uint64{uint64(i) + 3, uint64(i)}
		equal(t, "Keep", j.Keep(below, checks), api.OK)
		manifestIs(t, fmt.Sprint("Keep from ", below), j, single(6, 1, 10, 5, checks...))
		equal(t, "the names", strings.Join(p.List(), " "), "manifest "+segmentFile(10))
	}
}

// broken holds that each method which may return an error returns ErrState, that the numbers are these, and that there is no manifest.
func broken(t *testing.T, what string, j *journal.Journal, want state) {
	t.Helper()
	for range 2 {
		for i, e := range []api.Errno{
			j.Own(want.owned, 5), j.Own(0, 64), j.Own(last, 5), j.Sure(want.count, pairAt(want.count)), j.Sure(0, api.Pair{64, 64}),
			j.Sync(), j.Roll(), j.Keep(0, nil), j.Keep(last, []uint64{9, 4}), j.Keep(0, []uint64{4, 9}),
		} {
			equal(t, fmt.Sprintf("%s: the call %d", what, i), e, api.ErrState)
		}
		want.due = false
		equal(t, what+": its state", stateOf(j), want)
		manifestIs(t, what, j, manifest.Manifest{})
	}
}

// TestNoJournal: P19.2: nil, and a journal that Open did not return.
func TestNoJournal(t *testing.T) {
	broken(t, "nil", nil, state{})
	broken(t, "no journal of Open", &journal.Journal{}, state{})
	var zero journal.Journal
	broken(t, "the zero value", &zero, state{})
}

// TestBroken: P19.2: an error of what works on the power breaks the journal, once and for all: it is returned, the numbers stay what they are, and nothing is done any more, though there was room, or the file, again.
func TestBroken(t *testing.T) {
	name := segmentFile(10)
	full := func(p *power.Power, room int) {
		for i := 0; ; i++ {
			p.Create(fmt.Sprint(i))
			n := min(api.MaxFile, api.MaxQuota-p.Disk().Used()-room)
			if n <= 0 {
				return
			}
			p.Append(fmt.Sprint(i), strings.Repeat("x", n))
		}
	}
	many := func(p *power.Power, room int) {
		for i := 0; len(p.List()) < api.MaxFiles-room; i++ {
			p.Create(fmt.Sprint(i))
		}
	}
	ahead := state{7, 6, 9, 8, true}
	atSync := state{7, 7, 9, 9, true}
	for _, x := range []struct {
		what  string
		spoil func(p *power.Power)
		call  func(j *journal.Journal) api.Errno
		e     api.Errno
		then  state
	}{
		{"Own, off", func(p *power.Power) { p.Blow() }, func(j *journal.Journal) api.Errno { return j.Own(9, 5) }, api.ErrDown, ahead},
		{"Own, no file", func(p *power.Power) { p.Remove(name) }, func(j *journal.Journal) api.Errno { return j.Own(9, 5) }, api.ErrNone, ahead},
		{"Own, no room", func(p *power.Power) { full(p, 15) }, func(j *journal.Journal) api.Errno { return j.Own(9, 5) }, api.ErrFull, ahead},
		{"Sure, off", func(p *power.Power) { p.Blow() }, func(j *journal.Journal) api.Errno { return j.Sure(7, pairAt(7)) }, api.ErrDown, ahead},
		{"Sure, no file", func(p *power.Power) { p.Remove(name) }, func(j *journal.Journal) api.Errno { return j.Sure(7, pairAt(7)) }, api.ErrNone, ahead},
		{"Sure, no room", func(p *power.Power) { full(p, 16) }, func(j *journal.Journal) api.Errno { return j.Sure(7, pairAt(7)) }, api.ErrFull, ahead},
		{"Sync, off", func(p *power.Power) { p.Blow() }, (*journal.Journal).Sync, api.ErrDown, ahead},
		{"Sync, no file", func(p *power.Power) { p.Remove(name) }, (*journal.Journal).Sync, api.ErrNone, ahead},
		{"Roll, off", func(p *power.Power) { p.Blow() }, (*journal.Journal).Roll, api.ErrDown, ahead},
		{"Roll, no file", func(p *power.Power) { p.Remove(name) }, (*journal.Journal).Roll, api.ErrNone, ahead},
		{"Roll, the new segment is there", func(p *power.Power) { p.Create(segmentFile(11)) }, (*journal.Journal).Roll, api.ErrThere, atSync},
		{"Roll, no room for the segment", func(p *power.Power) { full(p, 32+2*16-1) }, (*journal.Journal).Roll, api.ErrFull, atSync},
		{"Roll, no room for the manifest", func(p *power.Power) { full(p, 32+2*16+48) }, (*journal.Journal).Roll, api.ErrFull, atSync},
		{"Roll, too many files", func(p *power.Power) { many(p, 0) }, (*journal.Journal).Roll, api.ErrFull, atSync},
		{"Roll, too many files with one more", func(p *power.Power) { many(p, 1) }, (*journal.Journal).Roll, api.ErrFull, atSync},
		{"Keep, off", func(p *power.Power) { p.Blow() }, func(j *journal.Journal) api.Errno { return j.Keep(0, nil) }, api.ErrDown, ahead},
		{"Keep, no room", func(p *power.Power) { full(p, 32) }, func(j *journal.Journal) api.Errno { return j.Keep(0, nil) }, api.ErrFull, ahead},
		{"Keep, too many files", func(p *power.Power) { many(p, 0) }, func(j *journal.Journal) api.Errno { return j.Keep(0, nil) }, api.ErrFull, ahead},
	} {
		j, p := started(t, 0, 5)
		says(t, j, 0, 6, 8)
		equal(t, "Sync", j.Sync(), api.OK)
		says(t, j, 0, 7, 9)
		x.spoil(p)
		equal(t, x.what, x.call(j), x.e)
		broken(t, x.what, j, x.then)
		for _, name := range p.List() {
			p.Remove(name)
		}
		p.Create(name)
		before, writes := files(p.Disk()), p.Writes()
		broken(t, x.what+", then", j, x.then)
		equal(t, x.what+": the disk", files(p.Disk()), before)
		equal(t, x.what+": writes", p.Writes(), writes)
	}
}

// TestBrokenAtEachWrite: P19.2, P19.5, P19.6: the power goes off at each write of a Roll and of a Keep: the journal is broken, and what was synced ahead of it stays told.
func TestBrokenAtEachWrite(t *testing.T) {
	for fuse := range 8 {
		for done := range 2 {
			d := laid(single(5, 0, 9, 5), whole(9, 5, 0, 5, 7, 7))
			p := power.New(d, 8+5+fuse, []int{done})
			j, _ := openedBy(t, p, 0, 4)
			says(t, j, 0, 8, 11)
			equal(t, "writes", p.Writes(), 8+5)
			what := fmt.Sprintf("Roll, write %d, done %d", fuse, done)
			equal(t, what, j.Roll(), api.ErrDown)
			then := state{8, 8, 11, 11, false}
			if fuse == 0 {
				then.synced, then.ownSynced = 7, 7
			}
			broken(t, what, j, then)
		}
	}
	for fuse := range 6 {
		d := laid(single(5, 0, 9, 5), whole(9, 5, 0, 5, 7, 7))
		p := power.New(d, 8+2+8+fuse, nil)
		j, _ := openedBy(t, p, 0, 4)
		says(t, j, 0, 8, 8)
		equal(t, "Roll", j.Roll(), api.OK)
		lay(d, "stray", "x")
		equal(t, "writes", p.Writes(), 8+2+8)
		equal(t, "Keep", j.Keep(8, nil), api.ErrDown)
		broken(t, fmt.Sprintf("Keep, write %d", fuse), j, state{8, 8, 8, 8, false})
	}
}

// TestNewMemory: P19.7: what Open and Manifest return shares nothing with the journal, nor with what they return next.
func TestNewMemory(t *testing.T) {
	d := laid(made(5, 0, [][2]uint64{{8, 5}, {9, 20}}, 30, 20), whole(8, 5, 0, 5, 20, 20), whole(9, 5, 0, 20, 33, 40))
	p := on(d)
	j, f := openedBy(t, p, 0, 4)
	foundIs(t, "Open", f, journal.Found{Epoch: 6, Checks: []uint64{30, 20}, From: 20, Pairs: pairsOf(20, 33), Own: inputsOf(0, 33, 40)})
	clear(f.Checks[:cap(f.Checks)])
	clear(f.Pairs[:cap(f.Pairs)])
	clear(f.Own[:cap(f.Own)])
	for range 3 {
		m := j.Manifest()
		if !sameManifest(m, single(6, 0, 10, 20, 30, 20)) {
			t.Errorf("Manifest: %+v", m)
		}
		clear(m.Segments[:cap(m.Segments)])
		clear(m.Checks[:cap(m.Checks)])
	}
	says(t, j, 0, 37, 41)
	equal(t, "Roll", j.Roll(), api.OK)
	want := made(6, 0, [][2]uint64{{10, 20}, {11, 37}}, 30, 20)
	for range 3 {
		m := j.Manifest()
		if !sameManifest(m, want) {
			t.Errorf("Manifest behind Roll: %+v", m)
		}
		clear(m.Segments[:cap(m.Segments)])
		clear(m.Checks[:cap(m.Checks)])
	}
	equal(t, "Keep", j.Keep(37, []uint64{37, 30}), api.OK)
	manifestIs(t, "behind Keep", j, single(6, 0, 11, 37, 37, 30))
	_, f = opened(t, d, 0, 4)
	foundIs(t, "again", f, journal.Found{Epoch: 7, Checks: []uint64{37, 30}, From: 37, Own: inputsOf(0, 37, 41)})
}

// TestArgumentsStay: P19.6: Keep neither changes nor keeps the Checks, also where these have room behind them.
func TestArgumentsStay(t *testing.T) {
	j, p := rolled(t)
	checks := []uint64{9, 4, 3, 2}
	equal(t, "Keep", j.Keep(7, checks[:2]), api.OK)
	equal(t, "the checks are the same", slices.Equal(checks, []uint64{9, 4, 3, 2}), true)
	clear(checks)
	want := made(6, 0, [][2]uint64{{12, 7}, {13, 10}}, 9, 4)
	manifestIs(t, "behind Keep", j, want)
	equal(t, "Roll", j.Roll(), api.OK)
	want.Segments = append(want.Segments, manifest.Part{N: 14, First: 12})
	manifestIs(t, "behind Roll", j, want)
	s, _ := p.Read("manifest")
	equal(t, "the manifest on the disk", s, textOf(want))
}

// TestTwoJournals: what a journal tells hangs on its own calls: not on another one's, over another disk.
func TestTwoJournals(t *testing.T) {
	a, _ := rolled(t)
	before := stateOf(a)
	b, _ := rolled(t)
	says(t, b, 0, 20, 30)
	equal(t, "Roll", b.Roll(), api.OK)
	equal(t, "Keep", b.Keep(10, []uint64{10}), api.OK)
	equal(t, "the state of the other one", stateOf(a), before)
	says(t, a, 0, 13, 16)
	equal(t, "the count", a.Count(), 13)
}

// model is a journal by the chapter's words: it keeps all that it ever knew, by frames.
type model struct {
	p                               *power.Power
	rows                            int
	m                               manifest.Manifest
	inputs                          map[uint64]api.Input
	count, owned, synced, ownSynced uint64
	appended                        int
	broken                          bool
}

// sweep is the chapter's clearing.
func sweep(p *power.Power, m manifest.Manifest) api.Errno {
	its := map[string]int{"manifest": 1}
	for _, part := range m.Segments {
		its[segmentFile(part.N)] = 1
	}
	for _, f := range m.Checks {
		its[checkFile(f)] = 1
	}
	for _, name := range p.List() {
		if its[name] == 1 {
			continue
		}
		if e := p.Remove(name); e != api.OK {
			return e
		}
	}
	return api.OK
}

// openModel is P19.1 word by word.
func openModel(p *power.Power, player uint8, rows int) (*model, journal.Found, api.Errno) {
	fail := func(e api.Errno) (*model, journal.Found, api.Errno) { return nil, journal.Found{}, e }
	m, e := manifest.Load(p)
	fresh := e == api.ErrNone
	switch {
	case fresh:
		m = manifest.Manifest{Segments: []manifest.Part{{}}}
	case e != api.OK:
		return fail(e)
	case m.Player != player:
		return fail(api.ErrClash)
	case m.Epoch == last:
		return fail(api.ErrFull)
	}
	if e := sweep(p, m); e != api.OK {
		return fail(e)
	}
	var segments [][]record.Record
	for _, part := range m.Segments {
		if fresh {
			break
		}
		s, e := p.Read(segmentFile(part.N))
		if e != api.OK {
			return fail(e)
		}
		h, l, _, _ := segment.Scan(s, part.N)
		segments = append(segments, append([]record.Record{h}, l...))
	}
	f := contentsOf(segments...)
	count := f.From + uint64(len(f.Pairs))
	if len(m.Checks) == 2 && count >= 12 {
		if floor := min(m.Checks[1], count-12); floor > f.From {
			f.Pairs, f.From = f.Pairs[floor-f.From:], floor
		}
	}
	f.Epoch, f.Fresh, f.Checks = m.Epoch+1, fresh, m.Checks
	x := &model{p: p, rows: rows, inputs: map[uint64]api.Input{}, count: count, owned: count}
	x.m = single(f.Epoch, player, m.Segments[len(m.Segments)-1].N+1, f.From, m.Checks...)
	var l []record.Record
	for at := f.From; at < count; at++ {
		q := f.Pairs[at-f.From]
		l = append(l, own(at, q[player]), sure(at, q))
	}
	for _, i := range f.Own {
		x.inputs[x.owned] = i
		l = append(l, own(x.owned, i))
		x.owned++
	}
	x.synced, x.ownSynced = x.count, x.owned
	if e := segment.Begin(p, head(x.m.Segments[0].N, f.From, f.Epoch, player), l); e != api.OK {
		return fail(e)
	}
	if e := manifest.Swap(p, x.m); e != api.OK {
		return fail(e)
	}
	if e := sweep(p, x.m); e != api.OK {
		return fail(e)
	}
	return x, f, api.OK
}

func (x *model) open() uint64 { return x.m.Segments[len(x.m.Segments)-1].N }

func (x *model) end(e api.Errno) api.Errno {
	x.broken = x.broken || e != api.OK
	return e
}

// own, sure, sync, roll and keep are P19.3 to P19.6 word by word.
func (x *model) own(f uint64, i api.Input) api.Errno {
	switch {
	case x.broken:
		return api.ErrState
	case i > 63:
		return api.ErrArg
	case f != x.owned || f == last:
		return api.ErrOrder
	case x.owned-x.count == 12:
		return api.ErrFull
	}
	e := x.end(x.p.Append(segmentFile(x.open()), bytesOf(own(f, i))))
	if e == api.OK {
		x.inputs[f] = i
		x.owned++
		x.appended++
	}
	return e
}

func (x *model) sure(f uint64, q api.Pair) api.Errno {
	switch {
	case x.broken:
		return api.ErrState
	case q[0] > 63 || q[1] > 63:
		return api.ErrArg
	case f != x.count || x.count == x.owned:
		return api.ErrOrder
	case q[x.m.Player] != x.inputs[f]:
		return api.ErrClash
	}
	e := x.end(x.p.Append(segmentFile(x.open()), bytesOf(sure(f, q))))
	if e == api.OK {
		x.count++
		x.appended++
	}
	return e
}

func (x *model) sync() api.Errno {
	if x.broken {
		return api.ErrState
	}
	e := x.end(x.p.Sync(segmentFile(x.open())))
	if e == api.OK {
		x.synced, x.ownSynced = x.count, x.owned
	}
	return e
}

func (x *model) roll() api.Errno {
	if x.broken {
		return api.ErrState
	}
	if len(x.m.Segments) == 12 {
		return api.ErrFull
	}
	if e := x.sync(); e != api.OK {
		return e
	}
	n := x.open() + 1
	var l []record.Record
	for f := x.count; f < x.owned; f++ {
		l = append(l, own(f, x.inputs[f]))
	}
	if e := segment.Begin(x.p, head(n, x.count, x.m.Epoch, x.m.Player), l); e != api.OK {
		return x.end(e)
	}
	m := x.m
	m.Segments = append(slices.Clone(m.Segments), manifest.Part{N: n, First: x.count})
	if e := manifest.Swap(x.p, m); e != api.OK {
		return x.end(e)
	}
	x.m, x.appended = m, 0
	return api.OK
}

func (x *model) keep(below uint64, checks []uint64) api.Errno {
	if x.broken {
		return api.ErrState
	}
	if len(checks) > 2 || len(checks) == 2 && checks[0] <= checks[1] {
		return api.ErrForm
	}
	m := x.m
	m.Checks = slices.Clone(checks)
	for i, part := range x.m.Segments {
		if i > 0 && part.First <= below {
			m.Segments = x.m.Segments[i:]
		}
	}
	if e := manifest.Swap(x.p, m); e != api.OK {
		return x.end(e)
	}
	x.m = m
	return x.end(sweep(x.p, m))
}

func (x *model) state() state {
	return state{x.count, x.synced, x.owned, x.ownSynced, !x.broken && x.appended >= x.rows}
}

func (x *model) manifest() manifest.Manifest {
	if x.broken {
		return manifest.Manifest{}
	}
	return x.m
}

// faces are the calls of a journal, or of a model.
type faces struct {
	own  func(uint64, api.Input) api.Errno
	sure func(uint64, api.Pair) api.Errno
	sync func() api.Errno
	roll func() api.Errno
	keep func(uint64, []uint64) api.Errno
}

func facesOf(j *journal.Journal) faces { return faces{j.Own, j.Sure, j.Sync, j.Roll, j.Keep} }

func (x *model) faces() faces { return faces{x.own, x.sure, x.sync, x.roll, x.keep} }

// move is a call that may be made of more than one journal.
type move func(faces) api.Errno

// anyFrame is mostly f, and otherwise one that is near, the first or the last.
func anyFrame(r *rand.Rand, f uint64) uint64 {
	if r.Intn(12) > 0 {
		return f
	}
	return []uint64{f - 1, f + 1, 0, last, f + 12}[r.Intn(5)]
}

// anyMove is one for a journal in the state of x; many are refused by it, but not most of them.
func anyMove(r *rand.Rand, x *model) move {
	switch n := r.Intn(100); {
	case n < 42:
		f, i := anyFrame(r, x.owned), api.Input(r.Intn(65))
		return func(y faces) api.Errno { return y.own(f, i) }
	case n < 80:
		f, q := anyFrame(r, x.count), api.Pair{api.Input(r.Intn(64)), api.Input(r.Intn(64))}
		if r.Intn(12) > 0 {
			q[x.m.Player] = x.inputs[x.count]
		}
		if r.Intn(20) == 0 {
			q[r.Intn(2)] = api.Input(64 + r.Intn(192))
		}
		return func(y faces) api.Errno { return y.sure(f, q) }
	case n < 87:
		return func(y faces) api.Errno { return y.sync() }
	case n < 95:
		return func(y faces) api.Errno { return y.roll() }
	}
	below := x.m.Segments[r.Intn(len(x.m.Segments))].First + uint64(r.Intn(3)) - 1
	checks := []uint64{x.count + uint64(r.Intn(3)), x.count - uint64(r.Intn(30)), 3}[:[]int{0, 1, 2, 2, 2, 3}[r.Intn(6)]]
	return func(y faces) api.Errno { return y.keep(below, checks) }
}

// alike holds a journal against its model, and their disks.
func alike(t *testing.T, what string, j *journal.Journal, p *power.Power, x *model, twin *power.Power) {
	t.Helper()
	equal(t, what+": its state", stateOf(j), x.state())
	manifestIs(t, what, j, x.manifest())
	disksAlike(t, what, p, twin)
}

func disksAlike(t *testing.T, what string, p, twin *power.Power) {
	t.Helper()
	equal(t, what+": off", p.Down(), twin.Down())
	equal(t, what+": writes", p.Writes(), twin.Writes())
	equal(t, what+": the disk", files(p.Disk()), files(twin.Disk()))
}

// onlyItsFiles is P19.9 of a journal that works.
func onlyItsFiles(t *testing.T, what string, j *journal.Journal, d *disk.Disk) {
	t.Helper()
	m := j.Manifest()
	its := map[string]int{"manifest": 1}
	for _, part := range m.Segments {
		its[segmentFile(part.N)] = 1
	}
	for _, f := range m.Checks {
		its[checkFile(f)] = 1
	}
	for _, name := range d.List() {
		equal(t, what+": counts "+name, its[name], 1)
	}
	if n := len(m.Segments); n < 1 || n > 12 {
		t.Errorf("%s: %d segments", what, n)
	}
}

// anyStart is a disk that is fresh, or whose last frames are near.
func anyStart(r *rand.Rand, player uint8) *disk.Disk {
	if r.Intn(3) > 0 {
		return disk.New(3000 + r.Intn(40000))
	}
	first := last - uint64(r.Intn(40))
	return laid(single(5, player, 9, first), []record.Record{head(9, first, 5, player)})
}

// TestAsModel: P19.1 to P19.7 at many plays, of several sessions each, with any fuse: the same errors, the same writes, the same disk as by the chapter's words; and P19.9.
func TestAsModel(t *testing.T) {
	r := rand.New(rand.NewSource(1))
	errors := map[api.Errno]int{}
	for range 300 {
		player, rows := uint8(r.Intn(2)), 4+r.Intn(29)
		d := anyStart(r, player)
		e := d.Copy()
		for range 6 {
			if r.Intn(3) == 0 {
				lay(d, "stray", "x")
				lay(e, "stray", "x")
			}
			fuse, kept := r.Intn(400)-100, []int{r.Intn(100), r.Intn(100), r.Intn(100)}[:r.Intn(4)]
			p, twin := power.New(d, fuse, kept), power.New(e, fuse, kept)
			j, f, got := journal.Open(p, player, rows)
			x, want, wantE := openModel(twin, player, rows)
			equal(t, "Open", got, wantE)
			foundIs(t, "Open", f, want)
			errors[got]++
			if got != api.OK {
				disksAlike(t, "Open", p, twin)
				continue
			}
			onlyItsFiles(t, "Open", j, d)
			alike(t, "Open", j, p, x, twin)
			for range r.Intn(200) {
				call := anyMove(r, x)
				got, want := call(facesOf(j)), call(x.faces())
				errors[got]++
				equal(t, "a call", got, want)
				alike(t, "a call", j, p, x, twin)
				if got == api.OK {
					onlyItsFiles(t, "a call", j, d)
				}
			}
			p.Blow()
			twin.Blow()
			if t.Failed() {
				t.FailNow()
			}
		}
	}
	for _, e := range []api.Errno{api.OK, api.ErrArg, api.ErrForm, api.ErrFull, api.ErrDown, api.ErrOrder, api.ErrState, api.ErrClash} {
		if errors[e] < 30 {
			t.Errorf("the error %d only %d times", e, errors[e])
		}
	}
}

// witness knows what journals over a disk were told, by frames: what has become of a write that was cut is open, so that what it was to write is known, too.
type witness struct {
	pairs                                 map[uint64]api.Pair
	inputs                                map[uint64]api.Input
	from, count, owned, synced, ownSynced uint64
	below, epoch                          uint64 // below is the most that a Keep was told
	checks                                [][]uint64
}

// ahead is a witness of what is found on a disk, uncut.
func ahead(f journal.Found, player uint8) *witness {
	w := &witness{pairs: map[uint64]api.Pair{}, inputs: map[uint64]api.Input{}, from: f.From, count: f.From, epoch: f.Epoch, checks: [][]uint64{f.Checks}}
	for _, q := range f.Pairs {
		w.pairs[w.count], w.inputs[w.count] = q, q[player]
		w.count++
	}
	w.owned = w.count
	for _, i := range f.Own {
		w.inputs[w.owned] = i
		w.owned++
	}
	w.synced, w.ownSynced = w.count, w.owned
	return w
}

// faces are those of a journal whose calls the witness sees.
func (w *witness) faces(j *journal.Journal) faces {
	seen := func(e api.Errno) api.Errno {
		if e == api.OK {
			w.count, w.owned, w.synced, w.ownSynced = j.Count(), j.Owned(), j.Synced(), j.OwnSynced()
			w.checks = [][]uint64{j.Manifest().Checks}
		}
		return e
	}
	return faces{
		own: func(f uint64, i api.Input) api.Errno {
			w.inputs[f] = i
			return seen(j.Own(f, i))
		},
		sure: func(f uint64, q api.Pair) api.Errno {
			w.pairs[f] = q
			return seen(j.Sure(f, q))
		},
		sync: func() api.Errno { return seen(j.Sync()) },
		roll: func() api.Errno { return seen(j.Roll()) },
		keep: func(below uint64, checks []uint64) api.Errno {
			w.below = max(w.below, below)
			w.checks = append(w.checks, checks)
			return seen(j.Keep(below, checks))
		},
	}
}

// holds is P19.8 of what was found on a disk whose power went off, and P19.9 of its first frame; more is 1 if the last call returned ErrDown.
func (w *witness) holds(t *testing.T, what string, f journal.Found, more uint64) {
	t.Helper()
	count := f.From + uint64(len(f.Pairs))
	owned := count + uint64(len(f.Own))
	if count < w.synced || count > w.count+more || owned < w.ownSynced || owned > w.owned+more {
		t.Errorf("%s: count %d, owned %d of %+v", what, count, owned, w)
	}
	limit := max(w.from, w.below)
	if len(f.Checks) == 2 && count >= 12 {
		limit = max(limit, min(f.Checks[1], count-12))
	}
	if f.From > limit {
		t.Errorf("%s: from %d on, not %d", what, f.From, limit)
	}
	for i, q := range f.Pairs {
		equal(t, fmt.Sprint(what, ": the pair ", i), q, w.pairs[f.From+uint64(i)])
	}
	for i, in := range f.Own {
		equal(t, fmt.Sprint(what, ": the input ", i), in, w.inputs[count+uint64(i)])
	}
	if f.Epoch <= w.epoch || f.Epoch > w.epoch+2 {
		t.Errorf("%s: epoch %d behind %d", what, f.Epoch, w.epoch)
	}
	if !slices.ContainsFunc(w.checks, func(l []uint64) bool { return slices.Equal(l, f.Checks) }) {
		t.Errorf("%s: checks %d, not of %d", what, f.Checks, w.checks)
	}
}

// again holds that what Open found on a disk is found once more, with the next epoch; and that on the disk as it was ahead of that, it is found behind an Open that was cut.
func again(t *testing.T, what string, d, before *disk.Disk, player uint8, f journal.Found, fuse int, kept []int) {
	t.Helper()
	_, e := openAlone(power.New(before, fuse, kept), player)
	if e != api.OK && e != api.ErrDown {
		t.Errorf("%s: Open that is cut at %d: %d", what, fuse, e)
	}
	_, got := opened(t, before, player, 4)
	if got.Epoch == f.Epoch+1 { // its manifest counts already
		got.Epoch, got.Fresh = f.Epoch, f.Fresh
	}
	foundIs(t, fmt.Sprintf("%s: cut at %d", what, fuse), got, f)
	_, got = opened(t, d, player, 4)
	f.Epoch, f.Fresh = f.Epoch+1, false
	foundIs(t, what+": once more", got, f)
}

func openAlone(p *power.Power, player uint8) (journal.Found, api.Errno) {
	_, f, e := journal.Open(p, player, 4)
	return f, e
}

// planned is what a session does on a copy of d, all of which succeeds, and the disk behind it.
func planned(t *testing.T, r *rand.Rand, d *disk.Disk, player uint8, calls int) ([]move, *disk.Disk, int) {
	t.Helper()
	p := on(d.Copy())
	x, _, e := openModel(p, player, 4)
	equal(t, "Open of the model", e, api.OK)
	var l []move
	for len(l) < calls {
		call := anyMove(r, x)
		if call(x.faces()) == api.OK {
			l = append(l, call)
		}
	}
	return l, p.Disk(), p.Writes()
}

// TestPowerOff: P19.8 at several plays: the power goes off at each write of a session, behind another one that was cut, or of which not all is synced. Open then finds what it must; and so does each Open behind it.
func TestPowerOff(t *testing.T) {
	r := rand.New(rand.NewSource(2))
	ends := map[string]int{}
	for play := range 12 {
		player := uint8(play % 2)
		start := big()
		for range play / 2 % 3 { // sessions ahead of it
			_, start, _ = planned(t, r, start, player, 60+r.Intn(60))
			if play%4 > 1 {
				start.Crash([]int{r.Intn(200)})
			}
		}
		f, _ := openAlone(on(start.Copy()), player)
		f.Epoch-- // what Open adds
		torn := start.Copy()
		torn.Crash(nil)
		least, _ := openAlone(on(torn), player)
		synced := least.From + uint64(len(least.Pairs))
		l, _, writes := planned(t, r, start, player, 70)
		for fuse := range writes + 1 {
			for _, kept := range [][]int{nil, {1}, {16}, {17, 16, 33}, {r.Intn(300), r.Intn(300), r.Intn(300)}, {-1 - r.Intn(300), r.Intn(99)}} {
				d := start.Copy()
				w := ahead(f, player)
				w.synced, w.ownSynced = synced, synced+uint64(len(least.Own))
				p := power.New(d, fuse, kept)
				e := session(t, w, p, player, l, ends)
				p.Blow()
				what := fmt.Sprintf("play %d, write %d, kept %d", play, fuse, kept)
				before := d.Copy()
				_, then := opened(t, d, player, 4)
				more := uint64(0)
				if e == api.ErrDown {
					more = 1
				}
				w.holds(t, what, then, more)
				again(t, what, d, before, player, then, r.Intn(14)-1, kept)
				if t.Failed() {
					t.FailNow()
				}
			}
		}
	}
	for _, call := range []string{"Open", "Own", "Sure", "Sync", "Roll", "Keep", "none"} {
		if ends[call] < 5 {
			t.Errorf("%s was cut only %d times", call, ends[call])
		}
	}
}

// session opens a journal and makes calls of it, up to the one in which the power goes off; it counts which one that is.
func session(t *testing.T, w *witness, p *power.Power, player uint8, l []move, ends map[string]int) api.Errno {
	t.Helper()
	j, f, e := journal.Open(p, player, 4)
	if e != api.OK {
		equal(t, "Open", e, api.ErrDown)
		ends["Open"]++
		return e
	}
	w.from, w.epoch, w.synced, w.ownSynced = f.From, f.Epoch, w.count, w.owned
	cut := "none"
	y := named(w.faces(j), &cut)
	for _, call := range l {
		if e := call(y); e != api.OK {
			equal(t, "a call", e, api.ErrDown)
			ends[cut]++
			return e
		}
	}
	ends["none"]++
	return api.OK
}

// named are the same calls, which tell their names.
func named(y faces, name *string) faces {
	return faces{
		own:  func(f uint64, i api.Input) api.Errno { *name = "Own"; return y.own(f, i) },
		sure: func(f uint64, q api.Pair) api.Errno { *name = "Sure"; return y.sure(f, q) },
		sync: func() api.Errno { *name = "Sync"; return y.sync() },
		roll: func() api.Errno { *name = "Roll"; return y.roll() },
		keep: func(f uint64, l []uint64) api.Errno { *name = "Keep"; return y.keep(f, l) },
	}
}
