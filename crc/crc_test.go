package crc_test

import (
	"hash/crc32"
	"math"
	"math/rand"
	"strings"
	"testing"

	"tessera/api"
	"tessera/crc"
)

// draws is the same row of numbers in every run, so that a failure comes back.
func draws() *rand.Rand { return rand.New(rand.NewSource(1)) }

func drawText(r *rand.Rand, n int) string {
	b := make([]byte, n)
	for i := range b {
		b[i] = byte(r.Intn(256))
	}
	return string(b)
}

// samples are texts of many lengths, each single byte and runs of equal bytes among them.
func samples() []string {
	out := []string{"", "a", "123456789", "\x00", "\xff", strings.Repeat("\x00", 32), strings.Repeat("\xff", 32), "\u00e4\u20ac", "\xc3\x28"}
	for i := range 256 {
		out = append(out, string([]byte{byte(i)}))
	}
	r := draws()
	for n := range 70 {
		out = append(out, drawText(r, n))
	}
	return append(out, drawText(r, 1<<12), drawText(r, 100003))
}

func sums() []uint32 {
	out := []uint32{0, 1, 2, 0x7fffffff, 0x80000000, 0xedb88320, 0xfffffffe, 0xffffffff}
	r := draws()
	for range 40 {
		out = append(out, r.Uint32())
	}
	return out
}

// shifts is the chapter's register, told by a division of whole words: the plain
// words of the chapter, written another way than in the package.
func shifts(register uint32, s string) uint32 {
	for i := 0; i < len(s); i++ {
		register ^= uint32(s[i])
		for k := 0; k < 8; k++ {
			register = register/2 ^ register%2*0xedb88320
		}
	}
	return register
}

func TestOfExamples(t *testing.T) { // P1.1
	for _, c := range []struct {
		s    string
		want uint32
	}{
		{"", 0}, {"123456789", 0xcbf43926}, {"a", 0xe8b7be43}, {"\x00", 0xd202ef8d}, {"\xff", 0xff000000},
		{"\x00\x00\x00\x00", 0x2144df1c}, {"\xff\xff\xff\xff", 0xffffffff}, {"The quick brown fox jumps over the lazy dog", 0x414fa339},
	} {
		if got := crc.Of(c.s); got != c.want {
			t.Errorf("Of(%q) = %08x, wanted %08x", c.s, got, c.want)
		}
	}
}

func TestOfIsTheRegister(t *testing.T) { // P1.1
	for _, s := range samples() {
		got := crc.Of(s)
		if want := ^shifts(math.MaxUint32, s); got != want {
			t.Errorf("Of of %d bytes = %08x, wanted %08x by the chapter's register", len(s), got, want)
		}
		if want := crc32.ChecksumIEEE([]byte(s)); got != want {
			t.Errorf("Of of %d bytes = %08x, wanted %08x by the library", len(s), got, want)
		}
	}
}

func TestMoreOfAnySum(t *testing.T) { // P1.1
	if got := crc.More(crc.Of("1234"), "56789"); got != 0xcbf43926 {
		t.Errorf("More = %08x, wanted cbf43926", got)
	}
	for _, sum := range sums() {
		if got := crc.More(sum, ""); got != sum {
			t.Errorf("More(%08x, nothing) = %08x, wanted the sum itself", sum, got)
		}
		for _, s := range samples()[:300] {
			if got, want := crc.More(sum, s), ^shifts(^sum, s); got != want {
				t.Errorf("More(%08x, %q) = %08x, wanted %08x", sum, s, got, want)
			}
		}
	}
}

func TestNoughtsAreBytes(t *testing.T) { // P1.2
	if crc.Noughts(crc.Of("a"), 2) != crc.Of("a\x00\x00") {
		t.Errorf("Noughts(Of(a), 2) = %08x", crc.Noughts(crc.Of("a"), 2))
	}
	for _, sum := range sums() {
		for _, n := range []int{0, 1, 2, 3, 4, 5, 7, 8, 9, 15, 16, 17, 31, 32, 33, 63, 64, 65, 255, 256, 257, 1000, 4095} {
			if got, want := crc.Noughts(sum, n), crc.More(sum, strings.Repeat("\x00", n)); got != want {
				t.Errorf("Noughts(%08x, %d) = %08x, wanted %08x", sum, n, got, want)
			}
		}
	}
}

func TestBelowNoughtIsNought(t *testing.T) { // P1.2
	for _, n := range []int{0, -1, -2, -8, math.MinInt32, math.MinInt + 1, math.MinInt} {
		for _, a := range sums() {
			if got := crc.Noughts(a, n); got != a {
				t.Errorf("Noughts(%08x, %d) = %08x, wanted the sum itself", a, n, got)
			}
			for _, b := range sums() {
				if got := crc.Join(a, b, n); got != a^b {
					t.Errorf("Join(%08x, %08x, %d) = %08x, wanted %08x", a, b, n, got, a^b)
				}
			}
		}
	}
}

// libraryNoughts goes over n bytes 0 one by one.
func libraryNoughts(sum uint32, n int) uint32 {
	chunk := make([]byte, 1<<16)
	for n > 0 {
		k := min(n, len(chunk))
		sum = crc32.Update(sum, crc32.IEEETable, chunk[:k])
		n -= k
	}
	return sum
}

func TestNoughtsOfGreatNumbers(t *testing.T) { // P1.2
	for _, n := range []int{1 << 20, 1<<24 - 1, 100000007} {
		for _, sum := range []uint32{0, 1, 0xcbf43926, math.MaxUint32} {
			if got, want := crc.Noughts(sum, n), libraryNoughts(sum, n); got != want {
				t.Errorf("Noughts(%08x, %d) = %08x, wanted %08x", sum, n, got, want)
			}
		}
	}
}

// The register comes round after 2^32 - 1 bytes 0, and no sooner: what great
// numbers do is told by small ones.
func TestNoughtsComeRound(t *testing.T) { // P1.2
	const round = math.MaxUint32
	for _, sum := range sums() {
		for _, k := range []int{0, 1, 2, 1000} {
			for _, times := range []int{1, 2, 3, 1 << 30} {
				if got, want := crc.Noughts(sum, times*round+k), crc.Noughts(sum, k); got != want {
					t.Errorf("Noughts(%08x, %d) = %08x, wanted %08x", sum, times*round+k, got, want)
				}
			}
		}
		if got, want := crc.Noughts(sum, math.MaxInt), crc.Noughts(sum, math.MaxInt32); got != want {
			t.Errorf("Noughts(%08x, greatest) = %08x, wanted %08x", sum, got, want)
		}
		for _, part := range []int{3, 5, 17, 257, 65537} {
			if sum != math.MaxUint32 && crc.Noughts(sum, round/part) == sum {
				t.Errorf("Noughts(%08x, %d) came round too soon", sum, round/part)
			}
		}
	}
}

func TestNoughtsAddUp(t *testing.T) { // P1.2
	r := draws()
	for range 500 {
		sum, a, b := r.Uint32(), r.Intn(math.MaxInt/2), r.Intn(math.MaxInt/2)
		if got, want := crc.Noughts(crc.Noughts(sum, a), b), crc.Noughts(sum, a+b); got != want {
			t.Errorf("Noughts(Noughts(%08x, %d), %d) = %08x, wanted %08x", sum, a, b, got, want)
		}
	}
}

func TestJoinOfAnyNumbers(t *testing.T) { // P1.2
	if got := crc.Join(crc.Of("1234"), crc.Of("56789"), 5); got != 0xcbf43926 {
		t.Errorf("Join = %08x, wanted cbf43926", got)
	}
	for _, a := range sums() {
		for _, b := range sums() {
			for _, n := range []int{0, 1, 2, 5, 63, 1025} {
				if got, want := crc.Join(a, b, n), b^shifts(a, strings.Repeat("\x00", n)); got != want {
					t.Errorf("Join(%08x, %08x, %d) = %08x, wanted %08x", a, b, n, got, want)
				}
			}
			for _, n := range []int{math.MaxInt32, 1 << 40, math.MaxInt - 1, math.MaxInt} {
				if got, want := crc.Join(a, b, n), b^^crc.Noughts(^a, n); got != want {
					t.Errorf("Join(%08x, %08x, %d) = %08x, wanted %08x", a, b, n, got, want)
				}
			}
		}
	}
}

func TestTextAndRead(t *testing.T) { // P1.3
	for _, c := range []struct {
		sum  uint32
		want string
	}{
		{0, "00000000"}, {1, "00000001"}, {0xa, "0000000a"}, {0x10, "00000010"}, {0xcbf43926, "cbf43926"},
		{0x01234567, "01234567"}, {0x89abcdef, "89abcdef"}, {0x80000000, "80000000"}, {0xffffffff, "ffffffff"},
	} {
		if got := crc.Text(c.sum); got != c.want {
			t.Errorf("Text(%x) = %q, wanted %q", c.sum, got, c.want)
		}
		if got, e := crc.Read(c.want); got != c.sum || e != api.OK {
			t.Errorf("Read(%q) = %x, %v, wanted %x, OK", c.want, got, e, c.sum)
		}
	}
	for _, sum := range sums() {
		if got, e := crc.Read(crc.Text(sum)); got != sum || e != api.OK {
			t.Errorf("Read(Text(%08x)) = %08x, %v", sum, got, e)
		}
	}
}

func wantNoSum(t *testing.T, s string) {
	t.Helper()
	if got, e := crc.Read(s); got != 0 || e != api.ErrArg {
		t.Errorf("Read(%.40q) = %x, %v, wanted 0, ErrArg", s, got, e)
	}
}

func TestReadOfWrongTexts(t *testing.T) { // P1.3
	for _, s := range []string{
		"", "1", "0", "0000001", "000000001", "0000000A", "CBF43926", "0x000001", "+0000001", "-0000001",
		" 0000001", "0000001 ", "00000001\n", "0000_001", "0000000g", "g0000000", "0000000\x00", "\xff\xff\xff\xff\xff\xff\xff\xff",
		"0000000\u00e4", "000000\u00e4", "\uff10\uff10", strings.Repeat("0", 16), strings.Repeat("0", 1<<20),
	} {
		wantNoSum(t, s)
	}
}

// Each byte at each place: just the sixteen digits are taken.
func TestReadOfEachByte(t *testing.T) { // P1.3
	for place := range 8 {
		for i := range 256 {
			b := []byte("00000000")
			b[place] = byte(i)
			d := strings.IndexByte("0123456789abcdef", byte(i))
			if d < 0 {
				wantNoSum(t, string(b))
			} else if got, e := crc.Read(string(b)); got != uint32(d)<<(28-4*place) || e != api.OK {
				t.Errorf("Read(%q) = %x, %v", b, got, e)
			}
		}
	}
}

func TestOneBehindTheOther(t *testing.T) { // P1.4
	r := draws()
	for range 400 {
		s := drawText(r, r.Intn(300))
		cut := r.Intn(len(s) + 1)
		whole, a, b := crc.Of(s), s[:cut], s[cut:]
		if got := crc.More(crc.Of(a), b); got != whole {
			t.Errorf("More of %q, %q = %08x, wanted %08x", a, b, got, whole)
		}
		if got := crc.Join(crc.Of(a), crc.Of(b), len(b)); got != whole {
			t.Errorf("Join of %q, %q = %08x, wanted %08x", a, b, got, whole)
		}
	}
	for _, s := range samples() {
		if crc.Join(crc.Of(""), crc.Of(s), len(s)) != crc.Of(s) || crc.Join(crc.Of(s), crc.Of(""), 0) != crc.Of(s) {
			t.Errorf("Join of %d bytes with nothing", len(s))
		}
	}
}

// flip turns the bits of pattern in s, from a place on; bits are counted as the
// register takes them, from each byte's lowest one on.
func flip(s string, from int, pattern uint32) string {
	b := []byte(s)
	for i := range 32 {
		if pattern>>i&1 == 1 {
			b[(from+i)/8] ^= 1 << ((from + i) % 8)
		}
	}
	return string(b)
}

func TestNearTextsHaveUnlikeSums(t *testing.T) { // P1.4
	r := draws()
	for range 20000 {
		s := drawText(r, 4+r.Intn(60))
		pattern := r.Uint32() >> r.Intn(32)
		if pattern == 0 {
			pattern = 1
		}
		from := r.Intn(8*len(s) - 31)
		if other := flip(s, from, pattern); crc.Of(s) == crc.Of(other) {
			t.Fatalf("%q and %q have one sum", s, other)
		}
	}
}

// No pattern of 32 bits goes unnoticed: what the single bits do to the sum is
// linearly independent, wherever the 32 bits stand and whatever is beside them.
func TestNoPatternGoesUnnoticed(t *testing.T) { // P1.4
	s := drawText(draws(), 40)
	for from := range 8*len(s) - 31 {
		var basis [32]uint32
		for i := range 32 {
			d := crc.Of(s) ^ crc.Of(flip(s, from, 1<<i))
			for h := 31; h >= 0 && d != 0; h-- {
				if d>>h&1 == 0 {
					continue
				}
				if basis[h] == 0 {
					basis[h] = d
					break
				}
				d ^= basis[h]
			}
			if d == 0 {
				t.Fatalf("bits from %d on: some pattern of the first %d is not noticed", from, i+1)
			}
		}
	}
}
