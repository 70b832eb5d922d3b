package bif_test

import (
	"math/rand"
	"slices"
	"strings"
	"testing"

	"heddle/api"
)

// spelt is the proper list of a text's code points.
func spelt(text string) api.Term {
	var row []api.Term
	for _, r := range []rune(text) {
		row = append(row, num(int64(r)))
	}
	return proper(row...)
}

// P13.2: ints as lists of digits.
func TestIntegerToList(t *testing.T) {
	for n, text := range map[int64]string{0: "0", 7: "7", 10: "10", -1: "-1", -12: "-12", 1234567890: "1234567890", api.MaxInt: "576460752303423487", api.MinInt: "-576460752303423488"} {
		comes(t, spelt(text), "integer_to_list", num(n))
		comes(t, num(n), "list_to_integer", spelt(text))
	}
	calls{{"integer_to_list", "[-12]", "[45, 49, 50]"}, {"integer_to_list", "[0]", "[48]"}}.hold(t)
	for _, n := range edges() {
		agrees(t, "integer_to_list", n)
		comes(t, n, "list_to_integer", tell("integer_to_list", n).t)
	}
}

// P13.2: digits with and without a sign and with zeros ahead; numbers at and beyond the bounds, and of very many digits.
func TestListToInteger(t *testing.T) {
	zeros := strings.Repeat("0", 4000)
	for text, n := range map[string]int64{
		"0": 0, "-0": 0, "+0": 0, "00": 0, "5": 5, "+5": 5, "-5": -5, "007": 7, "-007": -7, "+010": 10, "9": 9, "1234567890": 1234567890,
		"576460752303423487": api.MaxInt, "+576460752303423487": api.MaxInt, "-576460752303423488": api.MinInt, "-576460752303423487": api.MinInt + 1, "0000576460752303423487": api.MaxInt,
		zeros: 0, "-" + zeros: 0, zeros + "576460752303423487": api.MaxInt, "-" + zeros + "576460752303423488": api.MinInt, "+" + zeros + "12": 12,
	} {
		comes(t, num(n), "list_to_integer", spelt(text))
		agrees(t, "list_to_integer", spelt(text))
	}
	nines := strings.Repeat("9", 4000)
	for _, text := range []string{
		"576460752303423488", "+576460752303423488", "-576460752303423489", "9223372036854775807", "9223372036854775808", "-9223372036854775808", "-9223372036854775809", "18446744073709551615", "18446744073709551616", "18446744073709551617", "-18446744073709551617", "36893488147419103232", "1" + zeros, "-1" + zeros, "+1" + zeros + "5", nines, "-" + nines, zeros[:50] + nines,
	} {
		refuses(t, api.ErrLimit, "list_to_integer", spelt(text))
		agrees(t, "list_to_integer", spelt(text))
	}
	for _, text := range []string{"", "-", "+", "--1", "++1", "+-1", "-+1", "1-", "1+", "- 1", " 1", "1 ", "1_0", "_1", "0x1", "1e1", "1.0", "a", "16#f", "\x001", "1\x00", "١", "½", "1\n", "\t1"} {
		refuses(t, api.ErrBadarg, "list_to_integer", spelt(text))
	}
}

// P13.2: what is no digit at every place, ahead of what is too great.
func TestListToIntegerEveryPlace(t *testing.T) {
	wrong := []api.Term{num(47), num(58), num(32), num(0), num(95), num(-1), num(-48), num(256 + 48), num(1<<32 + 49), num(0xd800), num(0x110000), num(api.MaxInt), num(api.MinInt), word("1"), word(""), tuple(num(49)), null(), proper(num(49)), list(num(49), num(49)), pid("n@h", 1, 5, 0), ref("n@h", 1, 1, 2, 3)}
	for _, text := range []string{"1", "-1", "+12", "12345", "99999999999999999999", "-99999999999999999999", "000"} {
		row, _ := elements(spelt(text))
		for place := range len(row) + 1 {
			for _, x := range wrong {
				refuses(t, api.ErrBadarg, "list_to_integer", proper(slices.Insert(slices.Clone(row), place, x)...))
				if place < len(row) {
					refuses(t, api.ErrBadarg, "list_to_integer", proper(slices.Replace(slices.Clone(row), place, place+1, x)...))
				}
			}
			for _, sign := range []api.Term{num(43), num(45)} {
				if place > 0 {
					refuses(t, api.ErrBadarg, "list_to_integer", proper(slices.Insert(slices.Clone(row), place, sign)...))
				}
			}
		}
		refuses(t, api.ErrBadarg, "list_to_integer", list(append(row, num(49))...))
	}
	// Every number of a byte, and some above.
	for n := int64(-3); n < 400; n++ {
		want := told{t: num(n - 48)}
		if n < 48 || n > 57 {
			want = badarg
		}
		if got := tell("list_to_integer", proper(num(n))); got.code != want.code || got.t.Int != want.t.Int {
			t.Errorf("%d is told as %v", n, got)
		}
		agrees(t, "list_to_integer", proper(num(n)))
		agrees(t, "list_to_integer", proper(num(n), num(48)))
		agrees(t, "list_to_integer", proper(num(48), num(n)))
	}
}

// widths are code points of one to four bytes, the edges of each among them.
var widths = [][]rune{{0, 1, 39, 92, 97, 0x7f}, {0x80, 0xe9, 0x7ff}, {0x800, 0x20ac, 0xd7ff, 0xe000, 0xfffd, 0xfffe, 0xffff}, {0x10000, 0x1d11e, 0x10ffff}}

// P13.2: atoms as lists of code points, there and back: of 0 to 255 bytes, and one more.
func TestAtoms(t *testing.T) {
	calls{{"atom_to_list", "[ab]", "[97, 98]"}, {"atom_to_list", "['']", "[]"}, {"atom_to_list", "['é€']", "[233, 8364]"}, {"list_to_atom", "[[]]", "''"}, {"list_to_atom", "[[97, 98]]", "ab"}, {"list_to_atom", "[[233, 8364]]", "'é€'"}, {"list_to_atom", "[[65, 32, 0]]", "'A \\x00'"}, {"list_to_atom", "[[101, 110, 100]]", "'end'"}}.hold(t)
	for i, points := range widths {
		width := i + 1
		for _, r := range points {
			for _, n := range []int{0, 1, 2, 63, 127, 255 / width} {
				text := strings.Repeat(string(r), n)
				if n*width > 255 {
					continue
				}
				row := slices.Repeat([]api.Term{num(int64(r))}, n)
				comes(t, proper(row...), "atom_to_list", word(text))
				comes(t, word(text), "list_to_atom", proper(row...))
				agrees(t, "atom_to_list", word(text))
				agrees(t, "list_to_atom", proper(row...))
			}
			// Up to 255 bytes with letters ahead and behind, and one more.
			for n := 1; n*width <= 255; n += 20 {
				row := slices.Repeat([]api.Term{num(int64(r))}, n)
				fill := slices.Repeat([]api.Term{num('a')}, 255-n*width)
				text := strings.Repeat(string(r), n)
				letters := strings.Repeat("a", len(fill))
				comes(t, word(text+letters), "list_to_atom", proper(append(row, fill...)...))
				comes(t, word(letters+text), "list_to_atom", proper(append(fill, row...)...))
				comes(t, proper(append(fill, row...)...), "atom_to_list", word(letters+text))
				refuses(t, api.ErrLimit, "list_to_atom", proper(slices.Concat(row, fill, []api.Term{num('b')})...))
				refuses(t, api.ErrLimit, "list_to_atom", proper(slices.Concat([]api.Term{num('b')}, fill, row)...))
			}
			refuses(t, api.ErrLimit, "list_to_atom", proper(slices.Repeat([]api.Term{num(int64(r))}, 255/width+1)...))
			refuses(t, api.ErrLimit, "list_to_atom", proper(slices.Repeat([]api.Term{num(int64(r))}, 4094)...))
		}
	}
	for _, x := range []string{"1", "{}", "[]", "[97]", "[97|98]", "<n@h.1.5.0>", "#Ref<n@h.1.1.2.3>"} {
		calls{{"atom_to_list", "[" + x + "]", "BADARG"}}.hold(t)
	}
}

// P13.2: what is no code point, at every place, also of lists of too many bytes.
func TestNoCodePoints(t *testing.T) {
	wrong := []api.Term{num(-1), num(-97), num(0xd800), num(0xdbff), num(0xdc00), num(0xdfff), num(0x110000), num(0x1fffff), num(1<<31 + 97), num(1<<32 + 97), num(-1<<32 + 97), num(api.MaxInt), num(api.MinInt), word("a"), word(""), tuple(num(97)), null(), proper(num(97)), list(num(97), num(98)), pid("n@h", 1, 5, 0), ref("n@h", 1, 1, 2, 3)}
	for _, n := range []int{0, 1, 3, 254, 255, 256, 300} {
		row := slices.Repeat([]api.Term{num(97)}, n)
		for _, place := range []int{0, n / 2, n} {
			for _, x := range wrong {
				refuses(t, api.ErrBadarg, "list_to_atom", proper(slices.Insert(slices.Clone(row), place, x)...))
			}
		}
	}
	refuses(t, api.ErrBadarg, "list_to_atom", list(slices.Repeat([]api.Term{num(97)}, 300)...))
}

// P13.2: texts by chance, there and back.
func TestSomeTexts(t *testing.T) {
	r := rand.New(rand.NewSource(7))
	for range 3000 {
		var row []api.Term
		for range r.Intn(90) {
			points := widths[r.Intn(4)]
			row = append(row, num(int64(points[r.Intn(len(points))])))
		}
		agrees(t, "list_to_atom", proper(row...))
		if x := tell("list_to_atom", proper(row...)); x.code == api.OK {
			comes(t, proper(row...), "atom_to_list", x.t)
		}
		var digits []api.Term
		for range r.Intn(25) {
			digits = append(digits, num(int64("0123456789-+:/ "[r.Intn(10+r.Intn(2)*r.Intn(6))])))
		}
		agrees(t, "list_to_integer", proper(digits...))
	}
}
