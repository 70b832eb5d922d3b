package mix_test

import (
	"bytes"
	"encoding/hex"
	"errors"
	"math"
	"math/big"
	"math/rand"
	"slices"
	"strconv"
	"strings"
	"testing"

	"heddle/api"
	"heddle/mix"
	"heddle/sample"
)

// printing: all bytes that a cookie may have, each once.
const printing = "!\"#$%&'()*+,-./0123456789:;<=>?@ABCDEFGHIJKLMNOPQRSTUVWXYZ[\\]^_`abcdefghijklmnopqrstuvwxyz{|}~"

// wrongCookies: texts that are no cookies, and where.
var wrongCookies = []struct {
	s  string
	at int
}{
	{"", 0},
	{"ab c", 2},
	{" ", 0}, {"\x7f", 0}, {"\x00", 0}, {"\n", 0}, {"\x80", 0}, {"\xff", 0}, {"é", 0}, {"日本", 0}, {"😀", 0},
	{" a", 0}, {"a ", 1}, {"a\x7f", 1}, {"a\x7f ", 1}, {"secret\n", 6}, {"secret\x00", 6},
	{"ab\xc3", 2}, {"ab\xc3\xa9", 2}, {"abé ", 2}, {"ab\xa9\xc3", 2}, {"ab\xed\xa0\x80", 2}, {"ab\xf4\x90\x80\x80", 2}, {"a\xc0\xaf", 1}, {"a\ufffd", 1},
	{strings.Repeat("a", 256), 255}, {strings.Repeat("a", 257), 255}, {strings.Repeat("~", 100000), 255},
	{strings.Repeat("a", 254) + " ", 254}, {strings.Repeat("a", 254) + "é", 254}, {strings.Repeat("a", 253) + "éé", 253}, {strings.Repeat("a", 255) + " ", 255},
	{strings.Repeat("a", 255) + "é", 255}, {strings.Repeat("a", 256) + " ", 255}, {strings.Repeat("a", 300) + "\xff", 255}, {strings.Repeat(" ", 300), 0}, {"a" + strings.Repeat("é", 300), 1},
}

// refused: err is a fault of layer mix with that number at that place; nothing lies above or under it.
func refused(t *testing.T, what string, err error, at int, code api.Errno) {
	t.Helper()
	f, ok := err.(*api.Fault)
	if !ok || *f != (api.Fault{Layer: "mix", At: at, Code: code}) || !sample.IsFault(err, *f) || !errors.Is(err, code) {
		t.Errorf("%s: %v, want errno %d of layer mix at %d, nothing under it", what, err, code, at)
	}
}

// digestOf: a digest that may be had.
func digestOf(t *testing.T, cookie string, challenge uint32) []byte {
	t.Helper()
	d, err := mix.Digest(cookie, challenge)
	if err != nil || len(d) != 16 {
		t.Fatalf("Digest(%.20q, %d) = %x, %v", cookie, challenge, d, err)
	}
	return d
}

// fault: where a text is no cookie, byte by byte; -1 where it is one.
func fault(s string) int {
	for i := 0; i < len(s); i++ {
		if i == 255 || s[i] <= 32 || s[i] >= 127 {
			return i
		}
	}
	if len(s) == 0 {
		return 0
	}
	return -1
}

// judged: Cookie tells of a text what the words say, Digest and Same refuse it if it is none.
func judged(t *testing.T, s string) {
	t.Helper()
	at, err := fault(s), mix.Cookie(s)
	d, derr := mix.Digest(s, 7)
	if at < 0 {
		if err != nil || derr != nil || len(d) != 16 || !mix.Same(s, 7, d) {
			t.Errorf("the cookie %q (%d): %v; Digest %x, %v", s, len(s), err, d, derr)
		}
		return
	}
	refused(t, "Cookie("+strconv.Quote(s)+")", err, at, api.ErrCookie)
	refused(t, "Digest("+strconv.Quote(s)+")", derr, at, api.ErrCookie)
	if len(d) != 0 || mix.Same(s, 7, d) {
		t.Errorf("of %q, which is no cookie, Digest tells %x, Same %t", s, d, mix.Same(s, 7, d))
	}
}

// The chapter's examples 1 and 2.
func TestExamples(t *testing.T) {
	refused(t, "Cookie", mix.Cookie("ab c"), 2, api.ErrCookie)
	refused(t, "Cookie", mix.Cookie(""), 0, api.ErrCookie)
	d := digestOf(t, "secret", 7)
	if !mix.Same("secret", 7, d) {
		t.Error("a digest is not the same")
	}
	d[3] ^= 1
	if mix.Same("secret", 7, d) {
		t.Error("a digest with a byte turned is the same")
	}
}

// P7.1: texts that are cookies.
func TestCookie(t *testing.T) {
	for _, s := range []string{"!", "~", "a", "0", "secret", "it's", `"`, `\`, "!~", "~!", "!a~", printing, strings.Repeat("a", 254), strings.Repeat("a", 255), strings.Repeat("!", 255), strings.Repeat("~", 255)} {
		if err := mix.Cookie(s); err != nil {
			t.Errorf("Cookie(%q): %v", s, err)
		}
	}
	if len(printing) != 126-33+1 {
		t.Errorf("%d bytes print", len(printing))
	}
}

// P7.1: texts that are none, and the place of the first byte that may not be.
func TestCookieRefuses(t *testing.T) {
	for _, c := range wrongCookies {
		refused(t, "Cookie("+strconv.Quote(c.s)+")", mix.Cookie(c.s), c.at, api.ErrCookie)
		judged(t, c.s)
	}
}

// P7.1: every byte at every place of short texts, and at the ends and the middle of those about as long as a cookie may be.
func TestCookieByteByByte(t *testing.T) {
	for _, n := range []int{0, 1, 2, 3, 5, 253, 254, 255, 256, 257, 258, 300} {
		text := bytes.Repeat([]byte("x"), n)
		judged(t, string(text))
		for i := range n {
			if i > 3 && i != n/2 && i < n-4 && (i < 252 || i > 257) {
				continue
			}
			for c := range 256 {
				text[i] = byte(c)
				judged(t, string(text))
			}
			text[i] = 'x'
		}
	}
}

// P7.1: of two bytes that may not be, the first one's place.
func TestCookieTellsTheFirst(t *testing.T) {
	for _, n := range []int{4, 255, 256, 260} {
		for i := range n {
			for _, j := range []int{i + 1, i + 2, n - 1} {
				if j <= i || j >= n {
					continue
				}
				text := bytes.Repeat([]byte("x"), n)
				text[i], text[j] = ' ', 0xc3
				judged(t, string(text))
				text[i], text[j] = 0xc3, 0xa9
				judged(t, string(text))
			}
		}
	}
}

// P7.2: the sixteen bytes, worked out elsewhere by the chapter's words.
func TestDigest(t *testing.T) {
	for _, c := range []struct {
		cookie    string
		challenge uint32
		want      string
	}{
		{"secret", 0, "f13b6361d5a37d25e70802ea34954baa"},
		{"secret", 7, "6124f36ffd307d58a275b12f9dd79526"},
		{"secret", 9, "bf36992d5624b4b8a0b5d4689b3332b1"},
		{"secret", 10, "b2a3faddca4bf7bd5c1df5bfd70784fe"},
		{"secret", math.MaxUint32, "e341dfd947b90da437c2164fc4a574da"},
		{"!", 0, "c35f93ef99410d311be256a4fa50df41"},
		{"!", 9, "4a247590441c781c1699aa19c1e09820"},
		{"!", 10, "843f1e0e71a514b7b705abc666eb4c17"},
		{"!", math.MaxUint32, "bc35e186af597e90a2e1f49377caa58f"},
		{"~", 0, "7564b1fbb016699019fccf1f86f52ec6"},
		{"~", 9, "01856716f08c98c60b5fbde94a25f938"},
		{"~", 10, "d01662e2365842e1a276dc61b9dc0f3f"},
		{"~", math.MaxUint32, "a9d01646a7771209f5fed13e5f09266a"},
		{"ab", 0, "3b0604c03e694cece007b31989b0fd19"},
		{"ba", 0, "2a82a75bc53f45a999be4e89391b3462"},
		{printing, 0, "a77f6e6a5213146909ac29386da2e6f6"},
		{printing, math.MaxUint32, "549320d72c445f398436d9381f5df1b7"},
		{strings.Repeat("x", 254), 7, "eed586eb72de633cf0e92d96a13ce3c6"},
		{strings.Repeat("x", 255), 0, "73474ff6075ca4da9ac16ba5b87d9bcc"},
		{strings.Repeat("x", 255), math.MaxUint32, "6ebf6438745364f185374fc283dacad8"},
	} {
		if d := digestOf(t, c.cookie, c.challenge); hex.EncodeToString(d) != c.want {
			t.Errorf("Digest(%.20q, %d) = %x, want %s", c.cookie, c.challenge, d, c.want)
		}
	}
}

// number: a whole number without bound; the words' numbers and their sums and products are cut to 64 bits by cut.
func number(decimal string) *big.Int {
	n, ok := new(big.Int).SetString(decimal, 10)
	if !ok {
		panic(decimal)
	}
	return n
}

func cut(n *big.Int) *big.Int { return n.And(n, number("18446744073709551615")) }

// mixed: the digest once more, by numbers without bound that are cut.
func mixed(cookie string, challenge uint32) []byte {
	a, b := number("14695981039346656037"), number("88172645463325252")
	for _, c := range []byte(cookie + strconv.Itoa(int(challenge))) {
		a.Xor(a, big.NewInt(int64(c)))
		cut(a.Mul(a, number("1099511628211")))
		b.Add(b, big.NewInt(int64(c)))
		b.Mul(b, number("6364136223846793005"))
		cut(b.Add(b, number("1442695040888963407")))
	}
	for range 4 {
		a.Xor(a, new(big.Int).Rsh(b, 29))
		cut(a.Mul(a, number("18397679294719823053")))
		b.Xor(b, new(big.Int).Rsh(a, 32))
		cut(b.Mul(b, number("14181476777654086739")))
	}
	return append(a.FillBytes(make([]byte, 8)), b.FillBytes(make([]byte, 8))...)
}

// P7.2 and P7.3: many cookies and challenges against the words once more.
func TestDigestAgainstTheWords(t *testing.T) {
	r := rand.New(rand.NewSource(7))
	challenges := []uint32{0, 1, 9, 10, 11, 99, 100, 101, 2147483647, 2147483648, 4294967294, math.MaxUint32}
	for n := uint64(1); n <= math.MaxUint32; n *= 10 {
		challenges = append(challenges, uint32(n-1), uint32(n), uint32(n+1))
	}
	for n := 1; n <= 255; n++ {
		cookie := make([]byte, n)
		for i := range cookie {
			cookie[i] = printing[r.Intn(len(printing))]
		}
		for _, challenge := range []uint32{challenges[n%len(challenges)], r.Uint32(), r.Uint32() >> r.Intn(32)} {
			want := mixed(string(cookie), challenge)
			if d := digestOf(t, string(cookie), challenge); !bytes.Equal(d, want) {
				t.Fatalf("Digest(%q, %d) = %x, want %x", cookie, challenge, d, want)
			}
			if !mix.Same(string(cookie), challenge, want) {
				t.Fatalf("Same(%q, %d, %x) = false", cookie, challenge, want)
			}
		}
	}
	for _, challenge := range challenges {
		if d := digestOf(t, "c", challenge); !bytes.Equal(d, mixed("c", challenge)) {
			t.Errorf("Digest(c, %d) = %x", challenge, d)
		}
	}
}

// P7.2: the challenge's digits stand right behind the cookie's bytes, so that only all of them in a row count.
func TestDigestOfOneRow(t *testing.T) {
	if !bytes.Equal(digestOf(t, "a1", 0), digestOf(t, "a", 10)) || !mix.Same("a4294967", 295, digestOf(t, "a", math.MaxUint32)) {
		t.Error("the same bytes in a row have other digests")
	}
}

// P7.2: Digest's error is Cookie's own, and no bytes are told.
func TestDigestRefuses(t *testing.T) {
	for _, c := range wrongCookies {
		for _, challenge := range []uint32{0, 7, math.MaxUint32} {
			d, err := mix.Digest(c.s, challenge)
			refused(t, "Digest("+strconv.Quote(c.s)+")", err, c.at, api.ErrCookie)
			if len(d) != 0 {
				t.Errorf("Digest(%q, %d) tells %x beside an error", c.s, challenge, d)
			}
		}
	}
}

// P7.3: the right digest, and none but it.
func TestSame(t *testing.T) {
	for _, cookie := range []string{"!", "secret", printing, strings.Repeat("x", 255)} {
		for _, challenge := range []uint32{0, 7, 9, 10, math.MaxUint32} {
			d := digestOf(t, cookie, challenge)
			if !mix.Same(cookie, challenge, d) {
				t.Errorf("Same(%.20q, %d, %x) = false", cookie, challenge, d)
			}
			for _, other := range wrongDigests(d) {
				if mix.Same(cookie, challenge, other) {
					t.Errorf("Same(%.20q, %d, %x) = true", cookie, challenge, other)
				}
			}
			for _, c := range []string{"?", cookie[1:] + "#", "secreT", "Secret", "secret ", "secret0", ""} {
				if mix.Same(c, challenge, d) {
					t.Errorf("Same(%.20q, %d) is true of the digest of %.20q", c, challenge, cookie)
				}
			}
			for _, n := range []uint32{challenge + 1, challenge - 1, challenge ^ 1<<31, challenge ^ 1<<8} {
				if mix.Same(cookie, n, d) {
					t.Errorf("Same(%.20q, %d) is true of the digest of %d", cookie, n, challenge)
				}
			}
		}
	}
}

// wrongDigests: bytes that are near a digest.
func wrongDigests(d []byte) [][]byte {
	wrong := [][]byte{nil, {}, {0}, make([]byte, 16), slices.Concat(d, []byte{0}), slices.Concat([]byte{0}, d), slices.Concat(d, d), slices.Concat(d[8:], d[:8])}
	for n := range 16 {
		wrong = append(wrong, d[:n:n], d[16-n:])
		for bit := range 8 {
			turned := slices.Clone(d)
			turned[n] ^= 1 << bit
			wrong = append(wrong, turned)
		}
	}
	backward := slices.Clone(d)
	slices.Reverse(backward)
	return append(wrong, backward)
}

// P7.3: what is no cookie has no digest, whatever is held against it.
func TestSameRefuses(t *testing.T) {
	for _, c := range wrongCookies {
		for _, d := range [][]byte{nil, {}, make([]byte, 16), mixed(c.s, 7), mixed(c.s[:min(len(c.s), 255)], 7), mixed(c.s[:c.at], 7)} {
			if mix.Same(c.s, 7, d) {
				t.Errorf("Same(%q, 7, %x) = true", c.s, d)
			}
		}
	}
}

// Rule 4: a digest that is changed changes no later answer, and Same leaves a digest as it was.
func TestDigestIsNewMemory(t *testing.T) {
	first, second := digestOf(t, "secret", 7), digestOf(t, "secret", 7)
	want := string(second)
	for i := range first {
		first[i] = '#'
	}
	_ = append(first, "and more"...)
	if string(second) != want || string(digestOf(t, "secret", 7)) != want || !mix.Same("secret", 7, second) {
		t.Errorf("a digest that is changed changes another one: %x", second)
	}
	room := []byte("ahead" + want + "behind")
	for _, challenge := range []uint32{7, 8} {
		if mix.Same("secret", challenge, room[5:21]) != (challenge == 7) || string(room) != "ahead"+want+"behind" {
			t.Errorf("Same changes what is handed in: %q", room)
		}
	}
}

// FuzzCookie: any text and challenge, against the words once more.
func FuzzCookie(f *testing.F) {
	f.Add("secret", uint32(7), []byte("0123456789abcdef"))
	f.Add("ab c", uint32(0), []byte{})
	f.Add("é", uint32(math.MaxUint32), []byte("\xff"))
	f.Fuzz(func(t *testing.T, s string, challenge uint32, digest []byte) {
		judged(t, s)
		right := fault(s) < 0 && bytes.Equal(digest, mixed(s, challenge))
		if mix.Same(s, challenge, digest) != right || mix.Same(s, challenge, mixed(s, challenge)) != (fault(s) < 0) {
			t.Errorf("Same(%q, %d, %x)", s, challenge, digest)
		}
	})
}
