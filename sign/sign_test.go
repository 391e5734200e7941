package sign_test

import (
	"encoding/binary"
	"fmt"
	"slices"
	"strconv"
	"strings"
	"testing"

	"foyer/digest"
	"foyer/sign"
)

var secrets = []string{"", "ann", "bob", "1:a", "0123456789abcdef", "secret of ann, longer than a block", "\u00fcnser", "\x00\xff", strings.Repeat("0", 1000)}

var messages = []string{"", "pay bob", "pay bob ", "\xff\x00 a message of more than one block", "f2c3d4740dea7e7d", messageOf(eachSame('0')), messageOf(eachSame('f')), messageOf("123456789abcdef0")}

// known are public keys that another program computed by the words of the chapters.
var known = map[string]string{
	"":                                   "f54c5fd10099a34b",
	"ann":                                "d1574cba71fc2909",
	"bob":                                "99347a6a24e0982e",
	"secret of ann, longer than a block": "2a921bda961a6245",
	"\u00fcnser":                         "b77041654e9de5b6",
	"\x00\xff":                           "4850f204e3eab311",
	strings.Repeat("0", 1000):            "e005a7d97fc70372",
}

func TestChapterExamples(t *testing.T) {
	for _, test := range []struct {
		digest string
		want   []int
	}{
		{"ffffffffffffffff", []int{15, 15, 15, 15, 15, 15, 15, 15, 15, 15, 15, 15, 15, 15, 15, 15, 0, 0}},
		{"0000000000000000", []int{0, 0, 0, 0, 0, 0, 0, 0, 0, 0, 0, 0, 0, 0, 0, 0, 15, 0}},
		{"123456789abcdef0", []int{1, 2, 3, 4, 5, 6, 7, 8, 9, 10, 11, 12, 13, 14, 15, 0, 7, 8}},
	} {
		if got := signedDigits(t, "ann", messageOf(test.digest)); !slices.Equal(got, test.want) {
			t.Errorf("the digits of %s are %d, want %d", test.digest, got, test.want)
		}
	}
}

// P3.1, C1.
func TestPublicOfKnownSecrets(t *testing.T) {
	for secret, want := range known {
		if got := sign.Public(secret); got != want {
			t.Errorf("Public(%q) = %q, want %q", secret, got, want)
		}
	}
}

// P3.1, C2.
func TestSignKnownMessages(t *testing.T) {
	wantSignature(t, "", "", "1fae840d3a662409 d71f566be5a394ac ca5d4d5e56b12471 c28d41a9c4b5dfed ab1fef2952237b80 af4367ac4b8e9b47 "+
		"32a7121baa6d3fcd bfacb6bbfb766e27 e32bc84e9fc21147 6dfbed437dd43706 cbaa9b615fdb1869 180aab8243807046 "+
		"b918e5c818aff6f2 4737dd50379ef37b 4d8c80e4fb43ade3 fb552c225b893897 e8187d493569ac22 51c952221cb937fb")
	wantSignature(t, "ann", "pay bob", "e7eab9c2d141a340 982fdb80e0a86869 cec00a520305cfe5 0cce897447b892c0 f698b26294d9fd5d f7dbb385fd0ce01d "+
		"e3d916d025cb4d3a 2ef0df3d91ede9d2 1466e6951ed506f7 75feb3145e8b30d6 beca47eca03c33fe e3bb108a0e622638 "+
		"737fe0ce82406003 474fbe1eeaf84ba9 c0bb511c9c10d496 47487fb7e9332929 5faa02141ea6a695 3e07446ecf6e8c3f")
	wantSignature(t, "bob", "\xff\x00 a message of more than one block", "622397485e313d65 feadfab28200a24f b560623632cdb53c f8ea8455f34ff8a6 bd3f4cdbbf76a203 ed8a8b3edca1fc69 "+
		"c8eb24cb36246fef 954e66da1e07b016 181975d01ef8d6c4 8d1aa67953050083 1704055813a683cc 2161205b529b05e3 "+
		"0aee78aab45994b6 9925c13fe10ef338 c18deedf79be4670 8e3e33bb7bcb98b0 57f47673b427fa93 68967963684d4588")
}

// P3.1, C1 and C2.
func TestPublicAndSignFollowTheWordsOfTheChapter(t *testing.T) {
	for _, secret := range secrets {
		if got, want := sign.Public(secret), digest.List(plainChains(secret, slices.Repeat([]int{15}, 18))); got != want {
			t.Errorf("Public(%q) = %q, want %q", secret, got, want)
		}
		for _, message := range messages {
			wantSignature(t, secret, message, strings.Join(plainChains(secret, plainDigits(message)), " "))
		}
	}
	for n := range 300 {
		secret, message := fmt.Sprint("secret ", n), fmt.Sprint("message ", n)
		wantSignature(t, secret, message, strings.Join(plainChains(secret, plainDigits(message)), " "))
	}
}

// P3.1, C3: any digests are a signature for the key that their chains lead to.
func TestVerifyFollowsTheChainsOfAnyDigests(t *testing.T) {
	for n, message := range messages {
		sig := make([]string, 18)
		for i := range sig {
			sig[i] = digest.Sum(fmt.Sprint(n, " ", i))
		}
		public := plainEnds(message, sig)
		wantVerify(t, public, message, sig, true)
		wantVerify(t, public, message, slices.Repeat(sig[:1], 18), false)
		slices.Reverse(sig)
		wantVerify(t, public, message, sig, false)
		wantVerify(t, plainEnds(message, sig), message, sig, true)
	}
}

// P3.1, C3: also for the keys that the ends of fewer, or more, chains would have.
func TestVerifyRefusesOtherSizes(t *testing.T) {
	for _, message := range messages {
		public := sign.Public("ann")
		all := append(sign.Sign("ann", message), sign.Sign("bob", message)...)
		for size := range len(all) + 1 {
			sig := all[:size]
			wantVerify(t, public, message, sig, size == 18)
			wantVerify(t, plainEnds(message, sig), message, sig, size == 18)
		}
		wantVerify(t, public, message, nil, false)
		wantVerify(t, digest.List(nil), message, nil, false)
		wantVerify(t, public, message, all[1:19], false)
		wantVerify(t, public, message, append([]string{""}, all[:18]...), false)
	}
}

// P3.1, C3: also for the keys that the ends of their chains have.
func TestVerifyRefusesElementsThatAreNoDigests(t *testing.T) {
	for _, message := range messages {
		sig := sign.Sign("ann", message)
		for i, element := range sig {
			for _, other := range []string{
				"", "x", element[:15], element + "0", " " + element, element + "\n", strings.ToUpper("abcdef" + element[6:]), "g" + element[1:],
				"\xff" + element[1:], element + element, messageOf(digest.Sum(element)), "GGGGGGGG" + between("GGGGGGGG", "", digest.Sum(element)),
			} {
				changed := slices.Clone(sig)
				changed[i] = other
				wantVerify(t, sign.Public("ann"), message, changed, false)
				wantVerify(t, plainEnds(message, changed), message, changed, false)
			}
		}
	}
}

// P3.1, C3.
func TestVerifyRefusesOtherTextsAsKeys(t *testing.T) {
	public, sig := sign.Public("ann"), sign.Sign("ann", "pay bob")
	for _, other := range []string{
		"", "ann", public[:15], public + "0", " " + public, public + "\n", strings.ToUpper(public), digest.Sum(public), eachSame('0'), digest.List(sig),
	} {
		wantVerify(t, other, "pay bob", sig, false)
	}
	for i := range public {
		other := []byte(public)
		other[i] ^= 1
		wantVerify(t, string(other), "pay bob", sig, false)
	}
}

// P3.2.
func TestSignaturesAreValid(t *testing.T) {
	for _, secret := range secrets {
		public := sign.Public(secret)
		for _, message := range messages {
			wantVerify(t, public, message, sign.Sign(secret, message), true)
		}
	}
	for n := range 1000 {
		secret, message := fmt.Sprint("secret ", n), fmt.Sprint("message ", n)
		wantVerify(t, sign.Public(secret), message, sign.Sign(secret, message), true)
	}
}

// P3.3: also for messages whose digests differ in one digit.
func TestSignaturesAreNotValidForOtherMessages(t *testing.T) {
	public := sign.Public("ann")
	for _, message := range messages {
		sig := sign.Sign("ann", message)
		eachOtherDigit(digest.Sum(message), func(i, d int, other string) {
			wantVerify(t, public, messageOf(other), sig, false)
		})
		for _, other := range messages {
			wantVerify(t, public, other, sig, other == message)
		}
		for n := range 200 {
			wantVerify(t, public, fmt.Sprint("message ", n), sig, false)
		}
	}
}

// P3.3: nobody can walk on from the elements of a signature to those of another message, as the checksum gets less.
func TestSignaturesCannotBeWalkedOn(t *testing.T) {
	public := sign.Public("ann")
	for _, message := range messages {
		sig, digits := sign.Sign("ann", message), plainDigits(message)
		eachOtherDigit(digest.Sum(message), func(i, d int, sum string) {
			if d < digits[i] {
				return
			}
			other := messageOf(sum)
			walked := slices.Clone(sig)
			walked[i] = digest.Chain(sig[i], d-digits[i])
			wantVerify(t, public, other, walked, false)
			later := plainDigits(other)
			for k := 16; k < 18; k++ {
				walked[k] = digest.Chain(sig[k], later[k]-digits[k])
			}
			wantVerify(t, public, other, walked, false)
		})
	}
}

// P3.3: two messages with one digest, which are shown, have the same signatures.
func TestMessagesWithOneDigestHaveOneSignature(t *testing.T) {
	for _, message := range messages {
		other := "another " + between("another ", " message", digest.Sum(message)) + " message"
		wantCollision(t, message, other)
		sig := sign.Sign("ann", message)
		wantSignature(t, "ann", other, strings.Join(sig, " "))
		wantVerify(t, sign.Public("ann"), other, sig, true)
	}
}

// P3.4.
func TestChangedSignaturesAreNotValid(t *testing.T) {
	public := sign.Public("ann")
	for _, message := range messages {
		sig, digits := sign.Sign("ann", message), plainDigits(message)
		for i, element := range sig {
			others := []string{sig[(i+1)%18], digest.Sum(element), digest.Sum("x"), eachSame('0'), eachSame('f'), sign.Sign("bob", message)[i]}
			for steps := range 16 {
				if steps != digits[i] {
					others = append(others, digest.Chain(plainStart("ann", i), steps))
				}
			}
			eachOtherDigit(element, func(_, _ int, other string) { others = append(others, other) })
			for _, other := range others {
				changed := slices.Clone(sig)
				changed[i] = other
				wantVerify(t, public, message, changed, false)
			}
		}
	}
}

// P3.4: an element can be replaced by another digest if both have one digest, as these two have, and their chain goes on.
func TestElementsWithOneDigestCanBeExchanged(t *testing.T) {
	element, other := "fe3137b588008004", "f73f3e53fea2cbb9"
	wantCollision(t, element, other)
	secret := "first" + between("20:first", "seventh1:0", element) + "seventh"
	zeros := messageOf(eachSame('0'))
	sig := sign.Sign(secret, zeros)
	if sig[0] != element {
		t.Fatalf("the chain starts with %q", sig[0])
	}
	changed := append([]string{other}, sig[1:]...)
	wantVerify(t, sign.Public(secret), zeros, changed, true)
	// A digit 15 is at the end of its chain: the element itself counts.
	ends := messageOf(eachSame('f'))
	wantVerify(t, plainEnds(ends, sig), ends, sig, true)
	wantVerify(t, plainEnds(ends, sig), ends, changed, false)
}

// P3.5.
func TestSignaturesAreNotValidForOtherKeys(t *testing.T) {
	for _, secret := range secrets {
		sig := sign.Sign(secret, "pay bob")
		for _, other := range secrets {
			wantVerify(t, sign.Public(other), "pay bob", sig, other == secret)
		}
		for n := range 200 {
			wantVerify(t, sign.Public(secret+fmt.Sprint(n)), "pay bob", sig, false)
			wantVerify(t, sign.Public(fmt.Sprint(n)), "pay bob", sig, false)
		}
	}
}

// P3.5: two secrets whose starts have the same digests, which are shown, have one key.
func TestSecretsWithTheSameStartsHaveOneKey(t *testing.T) {
	secret := "first, the secret 20"
	last := secret[13:]
	other := "other" + between("20:other", last+"1:0", digest.List([]string{secret, "0"})) + last
	for i := range 18 {
		number := strconv.Itoa(i)
		tail := fmt.Sprintf("%d:%s", len(number), number)
		wantCollision(t, "20:"+secret+tail, "20:"+other+tail)
	}
	for _, message := range messages {
		wantVerify(t, sign.Public(other), message, sign.Sign(secret, message), true)
	}
}

// P3.6.
func TestKeysAndSignaturesHaveTheirForm(t *testing.T) {
	check := func(secret, message string) {
		t.Helper()
		public, sig := sign.Public(secret), sign.Sign(secret, message)
		if !digest.Is(public) {
			t.Errorf("Public(%q) = %q", secret, public)
		}
		if len(sig) != 18 {
			t.Errorf("Sign(%q, %q) has %d elements", secret, message, len(sig))
		}
		for _, element := range sig {
			if !digest.Is(element) {
				t.Errorf("Sign(%q, %q) has %q", secret, message, element)
			}
		}
		if sign.Public(secret) != public {
			t.Errorf("Public(%q) is another one again", secret)
		}
		wantSignature(t, secret, message, strings.Join(sig, " "))
	}
	for _, secret := range secrets {
		for _, message := range messages {
			check(secret, message)
		}
	}
	for n := range 1000 {
		check(fmt.Sprint(n), fmt.Sprint(n*n))
	}
}

// P3.6.
func TestChecksumDecreasesIfADigitIncreases(t *testing.T) {
	for _, message := range messages {
		digits := signedDigits(t, "ann", message)
		check := 16*digits[16] + digits[17]
		eachOtherDigit(digest.Sum(message), func(i, d int, sum string) {
			other := signedDigits(t, "ann", messageOf(sum))
			if more := 16*other[16] + other[17]; more != check+digits[i]-d {
				t.Errorf("the checksum of %s is %d, that of %s %d", digest.Sum(message), check, sum, more)
			}
		})
	}
}

// P1 and P3: arguments stay as they are, results are new memory, and earlier calls do not matter.
func TestCallsAreIndependent(t *testing.T) {
	public, sig := sign.Public("ann"), sign.Sign("ann", "pay bob")
	kept := slices.Clone(sig)
	wantVerify(t, public, "pay bob", sig, true)
	if !slices.Equal(sig, kept) {
		t.Errorf("the argument became %q", sig)
	}
	clear(sig)
	sign.Sign("bob", "pay ann")
	wantVerify(t, public, "pay bob", sig, false)
	wantVerify(t, public, "pay bob", kept, true)
	wantSignature(t, "ann", "pay bob", strings.Join(kept, " "))
	if sign.Public("ann") != public {
		t.Error("the key is another one again")
	}
}

func wantSignature(t *testing.T, secret, message, want string) {
	t.Helper()
	if got := sign.Sign(secret, message); strings.Join(got, " ") != want {
		t.Errorf("Sign(%q, %q) = %q, want %s", secret, message, got, want)
	}
}

func wantVerify(t *testing.T, public, message string, sig []string, want bool) {
	t.Helper()
	if got := sign.Verify(public, message, sig); got != want {
		t.Errorf("Verify(%q, %q, %q) = %v", public, message, sig, got)
	}
}

// wantCollision checks that two different texts with one digest are shown.
func wantCollision(t *testing.T, text, other string) {
	t.Helper()
	if text == other || digest.Sum(text) != digest.Sum(other) {
		t.Fatalf("%q and %q are no different texts with one digest", text, other)
	}
}

// signedDigits returns the digits of a message as its signature shows them: as numbers of steps from the starts.
func signedDigits(t *testing.T, secret, message string) []int {
	t.Helper()
	var digits []int
	for i, element := range sign.Sign(secret, message) {
		d, text := 0, plainStart(secret, i)
		for d < 16 && text != element {
			d, text = d+1, digest.Sum(text)
		}
		digits = append(digits, d)
	}
	return digits
}

func plainDigits(message string) []int {
	var digits []int
	check := 16 * 15
	for _, c := range digest.Sum(message) {
		d := strings.IndexRune("0123456789abcdef", c)
		digits = append(digits, d)
		check -= d
	}
	return append(digits, check>>4, check&15)
}

func plainStart(secret string, i int) string {
	number := strconv.Itoa(i)
	return digest.Sum(fmt.Sprintf("%d:%s%d:%s", len(secret), secret, len(number), number))
}

func plainChains(secret string, steps []int) []string {
	var chains []string
	for i, n := range steps {
		text := plainStart(secret, i)
		for range n {
			text = digest.Sum(text)
		}
		chains = append(chains, text)
	}
	return chains
}

// plainEnds returns the key that the elements of a signature lead to; elements beyond the digits are walked by 15 steps.
func plainEnds(message string, sig []string) string {
	digits := append(plainDigits(message), make([]int, len(sig))...)
	var ends []string
	for i, element := range sig {
		for range 15 - digits[i] {
			element = digest.Sum(element)
		}
		ends = append(ends, element)
	}
	return digest.List(ends)
}

// eachOtherDigit visits the digests that differ from this one in one digit.
func eachOtherDigit(text string, visit func(i, d int, other string)) {
	for i := range text {
		for d, c := range "0123456789abcdef" {
			if other := text[:i] + string(c) + text[i+1:]; other != text {
				visit(i, d, other)
			}
		}
	}
}

func eachSame(c rune) string { return strings.Repeat(string(c), 16) }

// messageOf returns a message with a digest.
func messageOf(want string) string { return between("", "", want) }

// between returns the 8 bytes that stand between two texts if all of it has a digest: each step of layer 2 can be undone. The first text has a multiple of 8 bytes.
func between(before, after, want string) string {
	state := uint64(7046029254386353131)
	for ; len(before) > 0; before = before[8:] {
		state = mix(state ^ binary.LittleEndian.Uint64([]byte(before)))
	}
	padded := append([]byte(after), 1)
	for len(padded)%8 != 0 {
		padded = append(padded, 0)
	}
	last, err := strconv.ParseUint(want, 16, 64)
	if err != nil {
		panic(err)
	}
	for ; len(padded) > 0; padded = padded[:len(padded)-8] {
		last = undoMix(last) ^ binary.LittleEndian.Uint64(padded[len(padded)-8:])
	}
	return string(binary.LittleEndian.AppendUint64(nil, undoMix(last)^state))
}

func mix(x uint64) uint64 {
	x ^= x >> 32
	x *= 11400714819323198485
	x ^= x >> 29
	x *= 13787848793156543929
	return x ^ x>>32
}

func undoMix(x uint64) uint64 {
	x ^= x >> 32
	x *= inverse(13787848793156543929)
	x ^= x>>29 ^ x>>58
	x *= inverse(11400714819323198485)
	return x ^ x>>32
}

// inverse returns the number by which an odd one is 1 modulo 2^64; each round doubles the bits that are right.
func inverse(odd uint64) uint64 {
	x := odd
	for range 6 {
		x *= 2 - odd*x
	}
	return x
}
