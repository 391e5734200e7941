package digest_test

import (
	"fmt"
	"math"
	"math/big"
	"slices"
	"strings"
	"testing"

	"foyer/digest"
)

// known are digests that another program computed by the words of the chapter.
var known = map[string]string{
	"":                                 "f5c050b99e989d0d",
	"\x00":                             "e9ff535cb5e11db4",
	"\x01":                             "1b9eadcfdc0f2e46",
	"a":                                "419e2cb8df73b511",
	"x":                                "fe6dfa73efeae64a",
	"abc":                              "c64227a1f32bdbd7",
	"foyer!!":                          "8ccb13e77ea5fa3f",
	"foyer!!!":                         "430a4ed508f6ca6d",
	"foyer!!!!":                        "6d92c1222cb640f0",
	"abcdefghijklmno":                  "4a87333f2dabe734",
	"abcdefghijklmnop":                 "a50224f31437f464",
	"caf\u00e9":                        "8c03670c693bf8e4",
	"\xff\xff\xff\xff\xff\xff\xff":     "26f44fbc126754e9",
	"\xff\xff\xff\xff\xff\xff\xff\xff": "41b8f376f40def31",
}

func TestChapterExamples(t *testing.T) {
	wantIs(t, "0123456789abcdef", true)
	wantIs(t, "0123456789abcdeF", false)
	wantBelow(t, "0000000000000a5f", 7, 4)
	wantEqual(t, "List of a, bc", digest.List([]string{"a", "bc"}), digest.Sum("1:a2:bc"))
	wantEqual(t, "Chain of x, 0", digest.Chain("x", 0), "x")
	wantEqual(t, "Chain of x, 2", digest.Chain("x", 2), digest.Sum(digest.Sum("x")))
}

// P2.1, B1.
func TestSumOfKnownTexts(t *testing.T) {
	for text, want := range known {
		wantEqual(t, fmt.Sprintf("Sum(%q)", text), digest.Sum(text), want)
	}
	wantEqual(t, "Sum of 23 bytes 128", digest.Sum(strings.Repeat("\x80", 23)), "ffe26a26f88d6bde")
	wantEqual(t, "Sum of 1000 times x", digest.Sum(strings.Repeat("x", 1000)), "2ef6fb3eacdcf543")
}

// P2.1, B1.
func TestSumFollowsTheWordsOfTheChapter(t *testing.T) {
	for size := range 50 {
		for _, text := range []string{
			strings.Repeat("\x00", size),
			strings.Repeat("\x01", size),
			strings.Repeat("\xff", size),
			strings.Repeat("Foyer, salle.", 4)[:size],
			rising(size),
		} {
			wantEqual(t, fmt.Sprintf("Sum(%q)", text), digest.Sum(text), plainSum(text))
		}
	}
	long := rising(100003)
	wantEqual(t, "Sum of a long text", digest.Sum(long), plainSum(long))
}

// P2.1, B1.
func TestListOfKnownLists(t *testing.T) {
	for _, test := range []struct {
		l    []string
		want string
	}{
		{nil, "f5c050b99e989d0d"},
		{[]string{}, "f5c050b99e989d0d"},
		{[]string{""}, "be9980c19711c8e7"},
		{[]string{"a", "bc"}, "f4c0b029e66e7354"},
		{[]string{"ann", "red"}, "82199d83cfd0d03e"},
		{[]string{"leaf", "0123456789"}, "be86b16081013c96"},
		{[]string{"none"}, "b58bd1ab405b8fa2"},
	} {
		wantEqual(t, fmt.Sprintf("List(%q)", test.l), digest.List(test.l), test.want)
	}
}

// P2.1, B1: the number of bytes counts, not that of characters, and has no leading zeros.
func TestListJoinsByNumbersOfBytes(t *testing.T) {
	for joined, l := range map[string][]string{
		"":                   nil,
		"0:":                 {""},
		"0:0:":               {"", ""},
		"1:a0:1:b":           {"a", "", "b"},
		"3:1:a":              {"1:a"},
		"2:\u00e9":           {"\u00e9"},
		"1:\xff1:\x00":       {"\xff", "\x00"},
		"10:0123456789":      {"0123456789"},
		"9:0123456781:9":     {"012345678", "9"},
		"100:" + rising(100): {rising(100)},
	} {
		wantEqual(t, fmt.Sprintf("List(%q)", l), digest.List(l), digest.Sum(joined))
	}
	eachList(func(l []string) {
		wantEqual(t, fmt.Sprintf("List(%q)", l), digest.List(l), plainSum(plainJoined(l)))
	})
	many := make([]string, 5000)
	wantEqual(t, "List of 5000 empty texts", digest.List(many), digest.Sum(strings.Repeat("0:", 5000)))
}

// P2.1, B2.
func TestChainRepeatsSum(t *testing.T) {
	for _, text := range []string{"", "x", "0123456789abcdef", rising(40)} {
		for _, n := range []int{0, -1, -1000, -1001, math.MinInt, math.MinInt + 1} {
			wantEqual(t, fmt.Sprintf("Chain(%q, %d)", text, n), digest.Chain(text, n), text)
		}
		want := text
		for n := 1; n <= 1000; n++ {
			want = digest.Sum(want)
			wantEqual(t, fmt.Sprintf("Chain(%q, %d)", text, n), digest.Chain(text, n), want)
		}
		for _, n := range []int{1001, 1002, 2000, 1 << 32, 1<<32 + 1, math.MaxInt} {
			wantEqual(t, fmt.Sprintf("Chain(%q, %d)", text, n), digest.Chain(text, n), want)
		}
	}
}

// P2.1, B2.
func TestChainOfKnownNumbers(t *testing.T) {
	for n, want := range map[int]string{
		1: "fe6dfa73efeae64a", 2: "e6c0ed99ac6f1acf", 15: "d674c751893c9607", 999: "0ece78a038899943",
		1000: "0bcf6685148e8c57", 1001: "0bcf6685148e8c57",
	} {
		wantEqual(t, fmt.Sprintf("Chain(x, %d)", n), digest.Chain("x", n), want)
	}
}

// P2.1, B3.
func TestIsAcceptsEachHexadecimalDigitAtEachPlace(t *testing.T) {
	for i := range 16 {
		for c := range 256 {
			text := []byte("0123456789abcdef")
			text[i] = byte(c)
			wantIs(t, string(text), strings.IndexByte("0123456789abcdef", byte(c)) >= 0)
		}
	}
}

// P2.1, B3.
func TestIsRefusesOtherSizes(t *testing.T) {
	for size := range 64 {
		wantIs(t, strings.Repeat("0", size), size == 16)
		wantIs(t, strings.Repeat("f", size), size == 16)
	}
	for _, text := range []string{
		"0x23456789abcdef", "+123456789abcdef", "-123456789abcdef", "0123_56789abcdef", " 123456789abcdef", "0123456789abcde ",
		"0123456789abcdef\n", "0123456789abcdef\x00", "\u00e923456789abcdef", "\uff11\uff12\uff13\uff14\uff15a", "ABCDEFABCDEFABCD",
	} {
		wantIs(t, text, false)
	}
}

// P2.1, B4: the last digit does not count.
func TestBelowCountsFifteenDigits(t *testing.T) {
	for _, test := range []struct {
		digest  string
		n, want int
	}{
		{"0000000000000000", 5, 0},
		{"000000000000000f", 5, 0},
		{"0000000000000010", 5, 1},
		{"0000000000000a50", 7, 4},
		{"0000000000000a50", 1, 0},
		{"0000000000000a50", 165, 0},
		{"0000000000000a50", 166, 165},
		{"0000000000000a50", math.MaxInt, 165},
		{"1000000000000000", math.MaxInt, 1 << 56},
		{"8000000000000000", math.MaxInt, 1 << 59},
		{"ffffffffffffffff", math.MaxInt, 1<<60 - 1},
		{"ffffffffffffffff", 1 << 60, 1<<60 - 1},
		{"ffffffffffffffff", 1<<60 - 1, 0},
		{"ffffffffffffffff", 1<<60 - 2, 1},
		{"ffffffffffffffff", 10, 5},
		{"0123456789abcdef", 1000, 430},
	} {
		wantBelow(t, test.digest, test.n, test.want)
	}
	eachDigest(func(text string) {
		for _, n := range []int{1, 2, 3, 10, 97, 4000, 1 << 31, 1 << 33, 1<<60 + 1, math.MaxInt} {
			wantBelow(t, text, n, plainBelow(text, n))
		}
	})
}

// P2.1, B4, and P1.
func TestBelowRefusesWhatIsNotValid(t *testing.T) {
	for _, n := range []int{0, -1, -7, math.MinInt} {
		wantBelow(t, "0000000000000a5f", n, 0)
		wantBelow(t, "ffffffffffffffff", n, 0)
		wantBelow(t, "", n, 0)
	}
	for _, text := range []string{
		"", "5", "0000000000000a5", "0000000000000a5f0", "0000000000000A5f", "0000000000000a5g", "0000000000000a5F",
		"+000000000000a5f", "-000000000000a5f", "0x00000000000a5f", "0000_0000000a5f0", " 000000000000a5f", "fffffffffffffffg",
	} {
		for _, n := range []int{1, 7, 1000, math.MaxInt} {
			wantBelow(t, text, n, 0)
		}
	}
}

// P2.2.
func TestWhatIsComputedIsADigest(t *testing.T) {
	for size := range 200 {
		text := rising(size)
		wantIs(t, digest.Sum(text), true)
		wantIs(t, digest.List([]string{text, "x"}), true)
		wantIs(t, digest.Chain(text, 1+size%20), true)
	}
	wantIs(t, digest.List(nil), true)
	wantIs(t, digest.Chain("", math.MaxInt), true)
	// Among so many digests some begin with zeros, which must be written.
	zeros := 0
	for n := range 4000 {
		text := digest.Sum(fmt.Sprint(n))
		wantIs(t, text, true)
		if text[0] == '0' {
			zeros++
		}
	}
	if zeros == 0 {
		t.Error("no digest begins with a zero")
	}
}

// P2.3.
func TestShortTextsHaveDifferentDigests(t *testing.T) {
	seen := map[string]string{}
	check := func(text string) { wantNew(t, seen, digest.Sum(text), text) }
	var extend func(text, letters string, most int)
	extend = func(text, letters string, most int) {
		check(text)
		if len(text) < most {
			for i := range len(letters) {
				extend(text+letters[i:i+1], letters, most)
			}
		}
	}
	var all [256]byte
	for c := range all {
		all[c] = byte(c)
		for size := range 8 {
			check(strings.Repeat(string(all[c:c+1]), size))
		}
	}
	extend("", "\x00\x01\x80\xff", 7)
	extend("", string(all[:]), 2)
}

// P2.4.
func TestTextsThatDifferInOneBlockHaveDifferentDigests(t *testing.T) {
	for _, size := range []int{1, 7, 8, 9, 15, 16, 17, 24, 31, 64} {
		text := rising(size)
		for first := 0; first < size; first += 8 {
			last := min(first+8, size)
			seen := map[string]string{digest.Sum(text): text}
			for i := first; i < last; i++ {
				for change := 1; change < 256; change++ {
					other := []byte(text)
					other[i] ^= byte(change)
					wantNew(t, seen, digest.Sum(string(other)), string(other))
				}
			}
			for n := range 200 {
				other := text[:first] + digest.Sum(fmt.Sprint(n))[:last-first] + text[last:]
				wantNew(t, seen, digest.Sum(other), other)
			}
		}
	}
}

// P2.5.
func TestChainOfAChainIsTheLongerChain(t *testing.T) {
	for _, text := range []string{"", "x", "a longer text"} {
		for _, a := range []int{-3, 0, 1, 2, 7, 15, 400, 1000} {
			for _, b := range []int{-1, 0, 1, 3, 8, 15, 600, 1000} {
				more := max(a, 0) + max(b, 0)
				if more > 1000 {
					continue
				}
				got := digest.Chain(digest.Chain(text, a), b)
				wantEqual(t, fmt.Sprintf("Chain(Chain(%q, %d), %d)", text, a, b), got, digest.Chain(text, more))
			}
		}
	}
}

// P2.6.
func TestDifferentListsHaveDifferentJoinedTexts(t *testing.T) {
	joined, short := map[string]string{}, map[string]string{}
	eachList(func(l []string) {
		text := plainJoined(l)
		wantNew(t, joined, text, fmt.Sprintf("%q", l))
		wantEqual(t, fmt.Sprintf("List(%q)", l), digest.List(l), digest.Sum(text))
		if len(text) <= 7 {
			wantNew(t, short, digest.List(l), fmt.Sprintf("%q", l))
		}
	})
	for _, pair := range [][2][]string{
		{{"a", "bc"}, {"ab", "c"}},
		{{"a", "bc"}, {"bc", "a"}},
		{{"1:a"}, {"a"}},
		{{"a1:b"}, {"a", "b"}},
		{{"a", ""}, {"a"}},
		{{"", "a"}, {"a", ""}},
		{{""}, {}},
	} {
		if digest.List(pair[0]) == digest.List(pair[1]) {
			t.Errorf("%q and %q have one digest", pair[0], pair[1])
		}
	}
}

// P2.6: the joined texts have the same length and differ within one block.
func TestListsThatDifferInOneBlockHaveDifferentDigests(t *testing.T) {
	seen := map[string]string{}
	for a := range 256 {
		for _, l := range [][]string{
			{string([]byte{byte(a)}), "second", "third"},
			{string([]byte{'a', byte(a)}), "econd", "third"},
		} {
			wantNew(t, seen, digest.List(l), fmt.Sprintf("%q", l))
		}
	}
	// "5:123454" is the first block, and the digits are in the second one.
	later := map[string]string{}
	for n := range 10000 {
		l := []string{"12345", fmt.Sprintf("%04d", n), "more"}
		wantNew(t, later, digest.List(l), fmt.Sprintf("%q", l))
	}
}

// P2.7.
func TestBelowIsARemainder(t *testing.T) {
	eachDigest(func(text string) {
		for _, n := range []int{1, 2, 3, 7, 10, 64, 4000, 1000003} {
			small := digest.Below(text, n)
			if small < 0 || small >= n {
				t.Errorf("Below(%q, %d) = %d", text, n, small)
			}
			for _, k := range []int{1, 2, 3, 12, 1000, 1 << 40, math.MaxInt / n} {
				if k > math.MaxInt/n {
					continue
				}
				more := digest.Below(text, k*n)
				if more < 0 || more >= k*n || more%n != small {
					t.Errorf("Below(%q, %d) = %d, but Below(.., %d) = %d", text, n, small, k*n, more)
				}
			}
		}
	})
	for _, n := range []int{2, 3, 10} {
		found := map[int]bool{}
		eachDigest(func(text string) { found[digest.Below(text, n)] = true })
		if len(found) != n {
			t.Errorf("Below(.., %d) has only %d values", n, len(found))
		}
	}
}

// P1 and P3: arguments stay as they are, and earlier calls do not matter.
func TestCallsAreIndependent(t *testing.T) {
	l := []string{"a", "", "bc"}
	list, sum, chain, below := digest.List(l), digest.Sum("a"), digest.Chain("a", 3), digest.Below("0123456789abcdef", 99)
	digest.Sum("another text")
	digest.List([]string{"another", "list"})
	digest.Chain("another text", 1000)
	digest.Below("ffffffffffffffff", 3)
	wantEqual(t, "List again", digest.List(l), list)
	wantEqual(t, "List of a copy", digest.List(slices.Clone(l)), list)
	wantEqual(t, "Sum again", digest.Sum("a"), sum)
	wantEqual(t, "Chain again", digest.Chain("a", 3), chain)
	wantBelow(t, "0123456789abcdef", 99, below)
	if !slices.Equal(l, []string{"a", "", "bc"}) {
		t.Errorf("the argument became %q", l)
	}
}

func wantEqual(t *testing.T, what, got, want string) {
	t.Helper()
	if got != want {
		t.Errorf("%s = %q, want %q", what, got, want)
	}
}

func wantIs(t *testing.T, text string, want bool) {
	t.Helper()
	if got := digest.Is(text); got != want {
		t.Errorf("Is(%q) = %v", text, got)
	}
}

func wantBelow(t *testing.T, text string, n, want int) {
	t.Helper()
	if got := digest.Below(text, n); got != want {
		t.Errorf("Below(%q, %d) = %d, want %d", text, n, got, want)
	}
}

// wantNew checks that nothing different has the same key, and remembers what has it.
func wantNew(t *testing.T, seen map[string]string, key, what string) {
	t.Helper()
	if other, known := seen[key]; known && other != what {
		t.Fatalf("%q and %q both have %q", what, other, key)
	}
	seen[key] = what
}

// plainSum follows the words of the chapter with numbers that have no greatest one.
func plainSum(text string) string {
	padded := append([]byte(text), 1)
	for len(padded)%8 != 0 {
		padded = append(padded, 0)
	}
	state := number("7046029254386353131")
	for ; len(padded) > 0; padded = padded[8:] {
		block := slices.Clone(padded[:8])
		slices.Reverse(block)
		state = plainMix(state.Xor(state, new(big.Int).SetBytes(block)))
	}
	return fmt.Sprintf("%016x", state)
}

func plainMix(x *big.Int) *big.Int {
	all := new(big.Int).Lsh(big.NewInt(1), 64)
	shift := func(by uint) { x = new(big.Int).Xor(x, new(big.Int).Rsh(x, by)) }
	times := func(factor string) { x = new(big.Int).Mod(new(big.Int).Mul(x, number(factor)), all) }
	shift(32)
	times("11400714819323198485")
	shift(29)
	times("13787848793156543929")
	shift(32)
	return x
}

func plainJoined(l []string) string {
	joined := ""
	for _, text := range l {
		joined += fmt.Sprintf("%d:%s", len(text), text)
	}
	return joined
}

func plainBelow(text string, n int) int {
	first, _ := new(big.Int).SetString(text[:15], 16)
	return int(first.Mod(first, big.NewInt(int64(n))).Int64())
}

func number(digits string) *big.Int {
	n, ok := new(big.Int).SetString(digits, 10)
	if !ok {
		panic(digits)
	}
	return n
}

// rising is a text whose blocks differ, and whose bytes do within a block.
func rising(size int) string {
	text := make([]byte, size)
	for i := range text {
		text[i] = byte(7*i + i/256 + 3)
	}
	return string(text)
}

func eachDigest(visit func(string)) {
	for _, text := range []string{"0000000000000000", "ffffffffffffffff", "8000000000000000", "0123456789abcdef", "fedcba9876543210"} {
		visit(text)
	}
	text := "start"
	for range 200 {
		text = plainSum(text)
		visit(text)
	}
}

// eachList visits all lists of at most three texts that contain what joined texts contain, too.
func eachList(visit func([]string)) {
	texts := []string{"", "0", "1", ":", "a", "0:", "1:", "1:a", "0:0:", ":1", "aa", "0123456789"}
	visit(nil)
	for _, a := range texts {
		visit([]string{a})
		for _, b := range texts {
			visit([]string{a, b})
			for _, c := range texts {
				visit([]string{a, b, c})
			}
		}
	}
}
