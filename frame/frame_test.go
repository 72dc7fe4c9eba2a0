package frame_test

import (
	"encoding/binary"
	"fmt"
	"hash/crc32"
	"math/rand"
	"slices"
	"strings"
	"testing"

	"hindcast/api"
	"hindcast/frame"
)

const (
	most = 4096 // bytes of a payload
	head = 6    // bytes in front of it
)

// lengths are those of payloads: both limits, and those beside which the length's two bytes change.
var lengths = []int{0, 1, 2, 3, 5, 6, 7, 255, 256, 257, 511, 512, most - 256, most - 1, most}

func anyBytes(r *rand.Rand, n int) string {
	b := make([]byte, n)
	r.Read(b)
	return string(b)
}

// payloads have every one of lengths: of zeros, of ones, and of any bytes, the same ones in each run.
func payloads() []string {
	r := rand.New(rand.NewSource(1))
	var l []string
	for _, n := range lengths {
		l = append(l, strings.Repeat("\x00", n), strings.Repeat("\xff", n), anyBytes(r, n))
	}
	return append(l, "a", "bc", "\x00\x00\xff\x12\xd9\x41")
}

// withLength is a frame of the payload but for its length, which is n; its checksum is right.
func withLength(n int, payload string) string {
	length := binary.LittleEndian.AppendUint16(nil, uint16(n))
	sum := crc32.ChecksumIEEE([]byte(string(length) + payload))
	return string(binary.LittleEndian.AppendUint32(length, sum)) + payload
}

// framed is the chapter's definition of a frame.
func framed(payload string) string { return withLength(len(payload), payload) }

// joined is the frames of l, one after the other.
func joined(l []string) string {
	all := ""
	for _, s := range l {
		all += framed(s)
	}
	return all
}

// first is P4.2 word by word.
func first(s string) (string, int, api.Errno) {
	if len(s) < head {
		return "", 0, api.ErrTorn
	}
	n := int(s[0]) + 256*int(s[1])
	if n > most {
		return "", 0, api.ErrLong
	}
	if len(s)-head < n {
		return "", 0, api.ErrTorn
	}
	if s[:head+n] != framed(s[head:head+n]) {
		return "", 0, api.ErrSum
	}
	return s[head : head+n], head + n, api.OK
}

// putTo holds Put's two results, and nextTo and allTo those of Next and All.
func putTo(t *testing.T, payload, want string, e api.Errno) {
	t.Helper()
	if f, got := frame.Put(payload); f != want || got != e {
		t.Errorf("Put of %d bytes %.20q: %.40q, %d, not %.40q, %d", len(payload), payload, f, got, want, e)
	}
}

func nextTo(t *testing.T, s, payload string, used int, e api.Errno) {
	t.Helper()
	if p, n, got := frame.Next(s); p != payload || n != used || got != e {
		t.Errorf("Next of %d bytes %.20q: %.40q, %d, %d, not %.40q, %d, %d", len(s), s, p, n, got, payload, used, e)
	}
}

func allTo(t *testing.T, s string, l []string, used int, e api.Errno) {
	t.Helper()
	if p, n, got := frame.All(s); !slices.Equal(p, l) || n != used || got != e {
		t.Errorf("All of %d bytes %.20q: %d payloads, %d, %d, not %d payloads, %d, %d", len(s), s, len(p), n, got, len(l), used, e)
	}
}

// TestExamples holds the chapter's table.
func TestExamples(t *testing.T) {
	a := framed("a")
	putTo(t, "", "\x00\x00\xff\x12\xd9\x41", api.OK)
	nextTo(t, "", "", 0, api.ErrTorn)
	nextTo(t, "12345", "", 0, api.ErrTorn)
	nextTo(t, a[:len(a)-1], "", 0, api.ErrTorn)
	nextTo(t, "\x01\x10\x00\x00\x00\x00", "", 0, api.ErrLong)
	nextTo(t, a+"and more", "a", 7, api.OK)
	allTo(t, a+framed("")+"x", []string{"a", ""}, 13, api.ErrTorn)
}

// TestPut: P4.1: payloads of every one of lengths, the empty one and the longest among them.
func TestPut(t *testing.T) {
	for _, s := range payloads() {
		putTo(t, s, framed(s), api.OK)
	}
}

// TestPutLong: P4.1: one byte too many, and lengths of which the lowest 16 bits are small.
func TestPutLong(t *testing.T) {
	for _, n := range []int{most + 1, most + 2, 2 * most, 1<<16 - 1, 1 << 16, 1<<16 + 1, 1 << 20} {
		putTo(t, strings.Repeat("x", n), "", api.ErrLong)
	}
}

// TestNext: P4.2: a frame is read alone, and whatever follows it.
func TestNext(t *testing.T) {
	for _, s := range payloads() {
		f := framed(s)
		for _, more := range []string{"", "\x00", "more", f, framed(""), strings.Repeat("\xff", 2*most)} {
			nextTo(t, f+more, s, len(f), api.OK)
		}
	}
}

// TestNextErrors: P4.2: the errors, and which of several is the first one.
func TestNextErrors(t *testing.T) {
	long := strings.Repeat("x", 1<<16)
	spoilt := "....."
	for _, c := range []struct {
		what, s string
		e       api.Errno
	}{
		{"one byte", "\x00", api.ErrTorn},
		{"a length above the most in five bytes", "\x01\x10\x00\x00\x00", api.ErrTorn},
		{"the longest length in five bytes", "\xff\xff\xff\xff\xff", api.ErrTorn},
		{"4097, and no byte of them", withLength(most+1, ""), api.ErrLong},
		{"4097, and one byte too few", withLength(most+1, long[:most]), api.ErrLong},
		{"4097, and its bytes", withLength(most+1, long[:most+1]), api.ErrLong},
		{"4097, and its bytes, with a wrong checksum", "\x01\x10" + spoilt + long[:most+1], api.ErrLong},
		{"65535, and its bytes", withLength(1<<16-1, long[:1<<16-1]), api.ErrLong},
		{"4096, and no byte of them", withLength(most, ""), api.ErrTorn},
		{"4096, and one byte too few", withLength(most, long[:most-1]), api.ErrTorn},
		{"4096, and one byte too few, with a wrong checksum", "\x00\x10...." + long[:most-1], api.ErrTorn},
		{"4096, and its bytes, with a wrong checksum", "\x00\x10...." + long[:most], api.ErrSum},
		{"0, with a wrong checksum", "\x00\x00\x00\x00\x00\x00", api.ErrSum},
		{"0, with the checksum of the payload alone, and more", "\x00\x00\x00\x00\x00\x00more", api.ErrSum},
		{"1, and no byte", withLength(1, ""), api.ErrTorn},
		{"1, and a byte, with a wrong checksum", "\x01\x00....x", api.ErrSum},
		{"the highest byte first", "\x00\x01\x00\x00\x00\x00a", api.ErrTorn},
	} {
		if p, n, e := frame.Next(c.s); p != "" || n != 0 || e != c.e {
			t.Errorf("Next of %s: %.20q, %d, %d, not %d", c.what, p, n, e, c.e)
		}
		allTo(t, c.s, nil, 0, c.e)
		allTo(t, framed("a")+c.s, []string{"a"}, 7, c.e)
	}
}

// TestNextCut: P4.2: a frame that is cut off anywhere.
func TestNextCut(t *testing.T) {
	for _, s := range payloads() {
		f := framed(s)
		for cut := range f {
			nextTo(t, f[:cut], "", 0, api.ErrTorn)
		}
	}
}

// TestChecksumOfBoth: P4.2: the checksum is not that of the payload alone, nor of the length behind it, nor with its highest byte first.
func TestChecksumOfBoth(t *testing.T) {
	for _, of := range []string{"ab", "\x02\x00", "ab\x02\x00", ""} {
		sum := binary.LittleEndian.AppendUint32(nil, crc32.ChecksumIEEE([]byte(of)))
		nextTo(t, "\x02\x00"+string(sum)+"ab", "", 0, api.ErrSum)
	}
	sum := binary.BigEndian.AppendUint32(nil, crc32.ChecksumIEEE([]byte("\x02\x00ab")))
	nextTo(t, "\x02\x00"+string(sum)+"ab", "", 0, api.ErrSum)
}

// TestAll: P4.3 and P4.4: the frames of no string, of one, and of many.
func TestAll(t *testing.T) {
	l := payloads()
	for n := range len(l) + 1 {
		all := joined(l[:n])
		allTo(t, all, l[:n], len(all), api.OK)
	}
	allTo(t, joined([]string{"", "", ""}), []string{"", "", ""}, 3*head, api.OK)
}

// TestAllFromPut: P4.4, by the frames that Put returns.
func TestAllFromPut(t *testing.T) {
	all := ""
	for _, s := range payloads() {
		f, _ := frame.Put(s)
		all += f
	}
	allTo(t, all, payloads(), len(all), api.OK)
}

// TestAllCut: P4.4: the frames of several strings, cut off at every place, between two of them, too.
func TestAllCut(t *testing.T) {
	l := []string{"a", "", "bc", "", strings.Repeat("x", 300), "\x00\x00", "d"}
	all := joined(l)
	ends := []int{0} // of the frames, and the beginning of the first one
	for i := range l {
		ends = append(ends, len(joined(l[:i+1])))
	}
	for cut := range len(all) + 1 {
		whole, e := 0, api.ErrTorn
		for ends[whole] < cut && whole < len(l) && ends[whole+1] <= cut {
			whole++
		}
		if ends[whole] == cut {
			e = api.OK
		}
		allTo(t, all[:cut], l[:whole], ends[whole], e)
	}
}

// TestAllSpoilt: P4.3: a frame in the midst that is none ends the list, and none that follows it is read.
func TestAllSpoilt(t *testing.T) {
	before, behind := []string{"a", "", "bc"}, joined([]string{"d", "", "e"})
	start := joined(before)
	for _, c := range []struct {
		spoilt string
		e      api.Errno
	}{
		{"\x01\x00....x", api.ErrSum},
		{"\x00\x00....", api.ErrSum},
		{withLength(most+1, ""), api.ErrLong},
		{withLength(most+1, strings.Repeat("x", most+1)), api.ErrLong},
		{withLength(most, "x"), api.ErrTorn},
		{framed("f")[:6], api.ErrSum}, // its payload is then the first byte of what follows
	} {
		allTo(t, start+c.spoilt+behind, before, len(start), c.e)
		allTo(t, c.spoilt+behind, nil, 0, c.e)
	}
}

// inverted is s with the bits of mask inverted, from bit at on: the lowest one of a byte is the first.
func inverted(s string, at int, mask uint32) string {
	l := []byte(s)
	for i, b := range binary.LittleEndian.AppendUint64(nil, uint64(mask)<<(at%8)) {
		if to := at/8 + i; to < len(l) {
			l[to] ^= b
		}
	}
	return string(l)
}

// masks are bits within 32 consecutive ones: one alone, each number of ones, the checksum's own polynomial, and any.
func masks(r *rand.Rand) []uint32 {
	l := []uint32{1, 0x80000001, 0xedb88320, 0xdb710641}
	for i := range 32 {
		l = append(l, 0xffffffff>>i)
	}
	for range 10 {
		l = append(l, r.Uint32(), r.Uint32()>>r.Intn(32))
	}
	return l
}

// spoiltTo holds that what became of f leads to ErrSum, alone and among others.
func spoiltTo(t *testing.T, f, spoilt string) {
	t.Helper()
	if f == spoilt {
		return
	}
	nextTo(t, spoilt, "", 0, api.ErrSum)
	nextTo(t, spoilt+f, "", 0, api.ErrSum)
	allTo(t, f+spoilt+f, []string{f[head:]}, len(f), api.ErrSum)
}

// TestInvertedPayload: P4.5: bits of a payload within 32 consecutive ones, at its beginning, in its midst and at its end.
func TestInvertedPayload(t *testing.T) {
	r := rand.New(rand.NewSource(2))
	for _, n := range []int{1, 2, 4, 5, 9, 64, most} {
		s := anyBytes(r, n)
		f := framed(s)
		for _, at := range []int{0, 1, 7, 8, 4*n - 16, 4 * n, 4*n + 3, 8*n - 32, 8*n - 31, 8*n - 9, 8*n - 1} {
			for _, mask := range masks(r) {
				if at >= 0 && at < 8*n {
					spoiltTo(t, f, f[:head]+inverted(s, at, mask))
				}
			}
		}
	}
}

// TestInvertedEverywhere: P4.5: each place of a payload.
func TestInvertedEverywhere(t *testing.T) {
	r := rand.New(rand.NewSource(3))
	s := anyBytes(r, 40)
	f := framed(s)
	for at := range 8 * len(s) {
		for _, mask := range masks(r) {
			spoiltTo(t, f, f[:head]+inverted(s, at, mask))
		}
	}
}

// TestInvertedChecksum: P4.5: any bits of a checksum, one alone and all of them, too.
func TestInvertedChecksum(t *testing.T) {
	r := rand.New(rand.NewSource(4))
	for _, s := range []string{"", "a", "abcd", anyBytes(r, 100), anyBytes(r, most)} {
		f := framed(s)
		for at := range 32 {
			spoiltTo(t, f, f[:2]+inverted(f[2:head], at, 1)+s)
		}
		for _, mask := range masks(r) {
			spoiltTo(t, f, f[:2]+inverted(f[2:head], 0, mask)+s)
		}
	}
}

// checkUsed holds P4.6 and P4.3 for any bytes: what was used are the frames of what was returned, and the rest begins with none.
func checkUsed(t *testing.T, s string) {
	t.Helper()
	l, used, e := frame.All(s)
	if used < 0 || used > len(s) || s[:used] != joined(l) {
		t.Fatalf("All of %.40q: the first %d bytes are not the frames of %.40q", s, used, l)
	}
	if used == len(s) && e != api.OK {
		t.Errorf("All of %.40q: error %d at the end", s, e)
	}
	if used < len(s) {
		_, _, want := first(s[used:])
		if e != want || want == api.OK {
			t.Errorf("All of %.40q: error %d, not %d", s, e, want)
		}
	}
	payload, n, want := first(s)
	nextTo(t, s, payload, n, want)
}

// TestUsed: P4.6: all bytes alone, and any bytes.
func TestUsed(t *testing.T) {
	for b := range 256 {
		checkUsed(t, string([]byte{byte(b)}))
	}
	r := rand.New(rand.NewSource(5))
	for n := range 3000 {
		checkUsed(t, anyBytes(r, n%300))
		checkUsed(t, string([]byte{byte(r.Intn(4)), 0})+anyBytes(r, n%20))
	}
}

// TestUsedOfSpoilt: P4.6: frames of which a byte was replaced, left out or put in.
func TestUsedOfSpoilt(t *testing.T) {
	r := rand.New(rand.NewSource(6))
	for range 300 {
		var l []string
		for range 1 + r.Intn(5) {
			l = append(l, anyBytes(r, r.Intn(8)))
		}
		all := joined(l)
		at := r.Intn(len(all))
		one := anyBytes(r, 1)
		checkUsed(t, all[:at]+one+all[at+1:])
		checkUsed(t, all[:at]+all[at+1:])
		checkUsed(t, all[:at]+one+all[at:])
		checkUsed(t, all+one)
	}
}

// TestAgain: what a call returns hangs on its argument alone, and a list that was returned is the caller's own.
func TestAgain(t *testing.T) {
	s := joined([]string{"a", "bc"}) + "x"
	l, _, _ := frame.All(s)
	l[0] = "other"
	allTo(t, s, []string{"a", "bc"}, len(s)-1, api.ErrTorn)
	for _, s := range payloads() {
		what := fmt.Sprintf("%.20q", s)
		f, _ := frame.Put(s)
		if again, _ := frame.Put(s); again != f {
			t.Errorf("Put of %s differs the second time", what)
		}
	}
}
