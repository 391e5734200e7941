package lexer_test

import (
	"math/rand/v2"
	"regexp"
	"slices"
	"strconv"
	"strings"
	"testing"

	"foyer/api"
	"foyer/lexer"
)

func TestChapterExamples(t *testing.T) {
	wantTokens(t, "row a1 at 7>=x# y", name("row", 0), name("a1", 4), name("at", 7), number("7", 7, 10), symbol(">=", 11), name("x", 13))
	wantError(t, "a !b", api.ErrChar, 2)
	wantError(t, "7x", api.ErrNumber, 0)
	wantError(t, "12345678901", api.ErrNumber, 0)
	wantError(t, "\n"+strings.Repeat("n", 25), api.ErrLimit, 1)
}

// P5.1, E1: gaps are no tokens, wherever they are.
func TestGaps(t *testing.T) {
	for _, text := range []string{"", " ", "\t", "\n", " \t\n\n\t ", "#", "##", "#\n", "# !$\x00\xff\r 7x", "#a\n#b\n", "\n #" + strings.Repeat("x", 100), "#" + strings.Repeat("9", 1000)} {
		wantTokens(t, text)
		wantTokens(t, text+"\na", name("a", len(text)+1))
		wantTokens(t, "a"+text, name("a", 0))
	}
	wantTokens(t, "a#b\nc", name("a", 0), name("c", 4))
	wantTokens(t, "7#x\n8", number("7", 7, 0), number("8", 8, 4))
	wantTokens(t, "<#\n=", symbol("<", 0), symbol("=", 3))
	wantTokens(t, "< =", symbol("<", 0), symbol("=", 2))
	wantTokens(t, "a\tb\nc", name("a", 0), name("b", 2), name("c", 4))
	for _, other := range []string{"\r", "\v", "\f", "\x00", "\u0085", "\u00a0", "\u2003", "\ufeff"} {
		wantError(t, "a"+other, api.ErrChar, 1)
	}
	wantError(t, "#a\r!", api.OK, 0)
	wantError(t, "#a\n!", api.ErrChar, 3)
}

// P5.1, E1: names.
func TestNames(t *testing.T) {
	for _, text := range []string{"a", "z", "A", "Z", "a_", "a0", "a9", "aZ", "Az", "hall", "h_9_H", "x__", "a1b2C3"} {
		wantTokens(t, text, name(text, 0))
		wantTokens(t, ";"+text+";", symbol(";", 0), name(text, 1), symbol(";", len(text)+1))
	}
	for n := 1; n <= 24; n++ {
		text := "b" + strings.Repeat("_", n-1)
		wantTokens(t, text, name(text, 0))
	}
	for _, n := range []int{25, 26, 48, 1000, 20000} {
		wantError(t, "b"+strings.Repeat("7", n-1), api.ErrLimit, 0)
	}
	wantError(t, "a "+strings.Repeat("b", 25)+" !", api.ErrLimit, 2)
	for _, text := range []string{"_", "_a", "\u00e9", "\u00e9a", "@a", "[a", "`a", "\x7fa"} {
		wantError(t, text, api.ErrChar, 0)
	}
	wantError(t, "a\u00e9", api.ErrChar, 1)
	wantTokens(t, "a-b.c", name("a", 0), symbol("-", 1), name("b", 2), symbol(".", 3), name("c", 4))
}

// P5.1, E1: numbers.
func TestNumbers(t *testing.T) {
	for text, n := range map[string]int{"0": 0, "7": 7, "10": 10, "00": 0, "007": 7, "0000000000": 0, "0000000001": 1, "1234567890": 1234567890, "2147483648": 2147483648, "4294967296": 4294967296, "9999999999": 9999999999} {
		wantTokens(t, text, number(text, n, 0))
		wantTokens(t, "\t"+text+"/", number(text, n, 1), symbol("/", len(text)+1))
	}
	for _, text := range []string{"12345678901", "00000000000", "00000000001", "99999999999", strings.Repeat("1", 30), strings.Repeat("9", 20000), "7x", "7X", "7_", "0a", "9z", "1Z", "12345678901x", "7_7"} {
		wantError(t, text, api.ErrNumber, 0)
		if len(text) < 1000 {
			wantError(t, "a+"+text+" !", api.ErrNumber, 2)
		}
	}
	wantTokens(t, "-7", symbol("-", 0), number("7", 7, 1))
	wantTokens(t, "1.50", number("1", 1, 0), symbol(".", 1), number("50", 50, 2))
	wantTokens(t, "7#x", number("7", 7, 0))
	wantError(t, "7!", api.ErrChar, 1)
	wantError(t, "7\u00e9", api.ErrChar, 1)
	wantError(t, "7\u0667", api.ErrChar, 1)
}

// P5.1, E1: symbols take as many bytes as they can.
func TestSymbols(t *testing.T) {
	for _, text := range strings.Fields("!= <= >= ; , . : ( ) { } = < > + - /") {
		wantTokens(t, text, symbol(text, 0))
		wantTokens(t, text+"a", symbol(text, 0), name("a", len(text)))
		wantTokens(t, text+"5", symbol(text, 0), number("5", 5, len(text)))
		wantTokens(t, text+")"+text, symbol(text, 0), symbol(")", len(text)), symbol(text, len(text)+1))
	}
	wantTokens(t, "<==", symbol("<=", 0), symbol("=", 2))
	wantTokens(t, "==", symbol("=", 0), symbol("=", 1))
	wantTokens(t, "=<=>", symbol("=", 0), symbol("<=", 1), symbol(">", 3))
	wantTokens(t, "<>=", symbol("<", 0), symbol(">=", 1))
	wantTokens(t, "!==", symbol("!=", 0), symbol("=", 2))
	wantTokens(t, "+=", symbol("+", 0), symbol("=", 1))
	wantError(t, "!", api.ErrChar, 0)
	wantError(t, "!!=", api.ErrChar, 0)
	wantError(t, "! =", api.ErrChar, 0)
	wantError(t, "!#=", api.ErrChar, 0)
	wantError(t, "=!", api.ErrChar, 1)
	wantError(t, "a<!", api.ErrChar, 2)
}

// P5.1, E1: every byte, every two bytes, and every four of some are what the chapter says.
func TestAllSmallTexts(t *testing.T) {
	for b := range 256 {
		first := string([]byte{byte(b)})
		wantAsPlain(t, first)
		for c := range 256 {
			wantAsPlain(t, first+string([]byte{byte(c)}))
		}
	}
	some := "a_7!=<#\n "
	for i := range 6561 {
		var text []byte
		for ; len(text) < 4; i /= len(some) {
			text = append(text, some[i%len(some)])
		}
		wantAsPlain(t, string(text))
	}
}

// P5.1, E1: random texts, with errors and without.
func TestRandomTexts(t *testing.T) {
	random := rand.New(rand.NewPCG(5, 1))
	for range 10000 {
		wantAsPlain(t, randomText(random, 20))
		wantAsPlain(t, randomBytes(random, 12))
	}
	for n := range 10 {
		wantAsPlain(t, strings.Join(lexedTexts(uint64(n), 200), "\n"))
	}
}

// P5.1, E1: the first of several errors is the one that is returned.
func TestFirstError(t *testing.T) {
	long := strings.Repeat("n", 25)
	wantError(t, "! 7x "+long, api.ErrChar, 0)
	wantError(t, "7x ! "+long, api.ErrNumber, 0)
	wantError(t, long+" 7x !", api.ErrLimit, 0)
	wantError(t, "a "+long+"!", api.ErrLimit, 2)
	wantError(t, "a,7"+long, api.ErrNumber, 2)
	wantError(t, "12345678901_!", api.ErrNumber, 0)
}

// P5.1, E1: a text of 20000 bytes is none too many, and before one more nothing else is an error.
func TestLongTexts(t *testing.T) {
	blanks := strings.Repeat(" ", 19999)
	wantTokens(t, blanks+" ")
	wantTokens(t, blanks+"a", name("a", 19999))
	wantTokens(t, "a"+blanks, name("a", 0))
	wantError(t, blanks+"!", api.ErrChar, 19999)
	wantError(t, blanks+"  ", api.ErrLimit, -1)
	wantError(t, "!"+blanks+" ", api.ErrLimit, -1)
	wantError(t, "7x"+blanks, api.ErrLimit, -1)
	wantError(t, strings.Repeat("n", 20001), api.ErrLimit, -1)
	wantError(t, strings.Repeat(";", 20001), api.ErrLimit, -1)
	wantError(t, strings.Repeat("!", 1000000), api.ErrLimit, -1)
}

// P5.1, E1: the token 5001 is an error, if it is a token.
func TestManyTokens(t *testing.T) {
	for _, word := range []string{";", "a ", "7\n", "<= ", "b#\n"} {
		most := strings.Repeat(word, 5000)
		tokens, err, at := lexer.Lex(most)
		if len(tokens) != 5000 || err != api.OK || at != 0 {
			t.Errorf("5000 of %q: %d tokens, %v, %d", word, len(tokens), err, at)
		}
		for _, gap := range []string{" ", "\n", "#x", " # !\n\t"} {
			if tokens, err, at := lexer.Lex(most + gap); len(tokens) != 5000 || err != api.OK || at != 0 {
				t.Errorf("5000 of %q and a gap: %d tokens, %v, %d", word, len(tokens), err, at)
			}
		}
		for _, more := range []string{"a", "7", ";", "!=", "a !", "; 7x"} {
			wantError(t, most+more, api.ErrLimit, len(most))
			wantError(t, most+" \n"+more, api.ErrLimit, len(most)+2)
		}
		wantError(t, most+"!", api.ErrChar, len(most))
		wantError(t, most+" 7x", api.ErrNumber, len(most)+1)
		wantError(t, most+" 12345678901", api.ErrNumber, len(most)+1)
		wantError(t, most+" "+strings.Repeat("n", 25), api.ErrLimit, len(most)+1)
		wantError(t, "!"+most+"a", api.ErrChar, 0)
	}
	wantError(t, strings.Repeat(";", 20000), api.ErrLimit, 5000)
	wantError(t, strings.Repeat(";", 6000)+"!", api.ErrLimit, 5000)
}

// P5.2.
func TestPlaces(t *testing.T) {
	gaps := regexp.MustCompile(`^([ \t\n]|#[^\n]*(\n|$))*$`)
	for _, text := range lexedTexts(2, 500) {
		end := 0
		for _, token := range lexed(t, text) {
			if token.At < end || !strings.HasPrefix(text[token.At:], token.Text) || token.Text == "" {
				t.Fatalf("%q has a token %q at %d", text, token.Text, token.At)
			}
			if !gaps.MatchString(text[end:token.At]) {
				t.Fatalf("%q is no gap of %q", text[end:token.At], text)
			}
			end = token.At + len(token.Text)
		}
		if !gaps.MatchString(text[end:]) {
			t.Fatalf("%q is no gap at the end of %q", text[end:], text)
		}
	}
}

// P5.3.
func TestAgain(t *testing.T) {
	for _, text := range lexedTexts(3, 500) {
		tokens := lexed(t, text)
		var again []api.Token
		written := ""
		for _, token := range tokens {
			again = append(again, api.Token{Kind: token.Kind, Text: token.Text, N: token.N, At: len(written)})
			written += token.Text + " "
		}
		wantTokens(t, written, again...)
	}
}

// P5.4.
func TestParts(t *testing.T) {
	texts := append(lexedTexts(4, 300), "", "#", "# x", "a", "<", "7", " ", "=", "!=")
	for i, first := range texts {
		second := texts[(i*7+3)%len(texts)]
		both := lexed(t, first)
		for _, token := range lexed(t, second) {
			token.At += len(first) + 1
			both = append(both, token)
		}
		wantTokens(t, first+"\n"+second, both...)
	}
	half, long := strings.Repeat("a ", 2500), strings.Repeat(" ", 10000)
	wantError(t, half+"\n"+half, api.OK, 0)
	wantError(t, half+"\n"+half+"b", api.ErrLimit, 10001)
	wantError(t, long+"\n"+long[1:], api.OK, 0)
	wantError(t, long+"\n"+long, api.ErrLimit, -1)
}

// P5.5.
func TestBeginnings(t *testing.T) {
	random := rand.New(rand.NewPCG(5, 5))
	wrong := []string{"!", "7x", "12345678901", "$", "_a", "\xff", strings.Repeat("n", 25), "\r"}
	for i := range 2000 {
		text := randomText(random, 6) + "\n" + wrong[i%len(wrong)] + " " + randomText(random, 6)
		_, err, at := lexer.Lex(text)
		if err == api.OK || at < 0 {
			t.Fatalf("%q: %v at %d", text, err, at)
		}
		wantError(t, text[:at], api.OK, 0)
		wantError(t, text[at:], err, 0)
	}
	many := strings.Repeat("a ", 5000)
	wantError(t, many+"a", api.ErrLimit, 10000)
	wantError(t, many, api.OK, 0)
	wantError(t, "a", api.OK, 0)
}

// P5.6.
func TestFurtherGaps(t *testing.T) {
	random := rand.New(rand.NewPCG(5, 6))
	gaps := []string{" ", "\n", "\t", " \n\t", "# x\n", "#\n", "\n# !! 7x\n", "##\n\n"}
	for _, text := range lexedTexts(6, 500) {
		tokens := lexed(t, text)
		begin := gaps[random.IntN(len(gaps))]
		shift, wider, end := len(begin), begin, 0
		for i := range tokens {
			after := tokens[i].At + len(tokens[i].Text)
			gap := gaps[random.IntN(len(gaps))]
			wider += text[end:after] + gap
			tokens[i].At += shift
			shift += len(gap)
			end = after
		}
		wantTokens(t, wider+text[end:], tokens...)
		wantTokens(t, wider+text[end:]+"\n"+gaps[random.IntN(len(gaps))], tokens...)
	}
}

// P5.7.
func TestLongest(t *testing.T) {
	followed := 0
	for _, text := range lexedTexts(7, 1000) {
		tokens := lexed(t, text)
		for i := 1; i < len(tokens); i++ {
			first, second := tokens[i-1], tokens[i]
			if first.At+len(first.Text) != second.At {
				continue
			}
			followed++
			if both, err, _ := lexer.Lex(first.Text + second.Text); err == api.OK && len(both) == 1 {
				t.Fatalf("%q and %q of %q are one token", first.Text, second.Text, text)
			}
		}
	}
	if followed < 1000 {
		t.Errorf("only %d tokens follow each other", followed)
	}
}

// P5.8.
func TestWords(t *testing.T) {
	random := rand.New(rand.NewPCG(5, 8))
	letters := "abcdefghijklmnopqrstuvwxyzABCDEFGHIJKLMNOPQRSTUVWXYZ"
	for range 5000 {
		text := []byte{letters[random.IntN(52)]}
		for range random.IntN(24) {
			text = append(text, (letters + "0123456789_")[random.IntN(63)])
		}
		wantTokens(t, string(text), name(string(text), 0))
	}
	for n := range 10000 {
		for _, n := range []int{n, 9999999999 - n, random.IntN(10000000000)} {
			wantTokens(t, strconv.Itoa(n), number(strconv.Itoa(n), n, 0))
		}
	}
	for n := 1; n < 10000000000; n *= 10 {
		wantTokens(t, strconv.Itoa(n), number(strconv.Itoa(n), n, 0))
		wantTokens(t, strconv.Itoa(n-1), number(strconv.Itoa(n-1), n-1, 0))
	}
	wantError(t, "10000000000", api.ErrNumber, 0)
}

// P1, P3: whatever the bytes, equal texts have equal results, of which each has memory of its own.
func TestIndependence(t *testing.T) {
	random := rand.New(rand.NewPCG(5, 9))
	texts := append(lexedTexts(9, 100), "", "!", "7x", strings.Repeat("n", 25), strings.Repeat(";", 5001), strings.Repeat("\xff", 20001))
	for range 100 {
		texts = append(texts, randomBytes(random, 40))
	}
	for _, text := range texts {
		first, err, at := lexer.Lex(text)
		kept := slices.Clone(first)
		second, err2, at2 := lexer.Lex(strings.Clone(text))
		if !slices.Equal(first, second) || err != err2 || at != at2 {
			t.Fatalf("%q has two results", text)
		}
		for i := range second {
			second[i] = api.Token{Kind: -1, Text: "changed", N: -1, At: -1}
		}
		third, _, _ := lexer.Lex(text)
		if !slices.Equal(first, kept) || !slices.Equal(third, kept) {
			t.Fatalf("%q shares memory", text)
		}
	}
}

func name(text string, at int) api.Token {
	return api.Token{Kind: api.TokName, Text: text, At: at}
}

func number(text string, n, at int) api.Token {
	return api.Token{Kind: api.TokNumber, Text: text, N: n, At: at}
}

func symbol(text string, at int) api.Token {
	return api.Token{Kind: api.TokSymbol, Text: text, At: at}
}

func wantTokens(t *testing.T, text string, want ...api.Token) {
	t.Helper()
	tokens, err, at := lexer.Lex(text)
	if !slices.Equal(tokens, want) || err != api.OK || at != 0 {
		t.Errorf("%.100q: %v, %v, %d, not %v", text, tokens, err, at, want)
	}
}

// wantError checks an error, or, if it is OK, that there is none.
func wantError(t *testing.T, text string, wantErr api.Errno, wantAt int) {
	t.Helper()
	tokens, err, at := lexer.Lex(text)
	if err != wantErr || at != wantAt || err != api.OK && len(tokens) > 0 {
		t.Errorf("%.100q: %d tokens, %v, %d, not %v, %d", text, len(tokens), err, at, wantErr, wantAt)
	}
}

func wantAsPlain(t *testing.T, text string) {
	t.Helper()
	if tokens, err, at := plainLex(text); err != api.OK {
		wantError(t, text, err, at)
	} else {
		wantTokens(t, text, tokens...)
	}
}

var (
	plainGap    = regexp.MustCompile(`^([ \t\n]|#[^\n]*)+`)
	plainName   = regexp.MustCompile(`^[A-Za-z][A-Za-z0-9_]*`)
	plainDigits = regexp.MustCompile(`^[0-9]+`)
	plainNumber = regexp.MustCompile(`^[0-9]{1,10}($|[^A-Za-z0-9_])`)
	plainSymbol = regexp.MustCompile(`^(!=|<=|>=|[;,.:(){}=<>+\-/])`)
)

// plainLex follows the words of the chapter by regular expressions; it knows no limit of the text or the tokens.
func plainLex(text string) ([]api.Token, api.Errno, int) {
	var tokens []api.Token
	for at := 0; ; at += len(tokens[len(tokens)-1].Text) {
		at += len(plainGap.FindString(text[at:]))
		rest := text[at:]
		switch {
		case rest == "":
			return tokens, api.OK, 0
		case plainName.MatchString(rest):
			if len(plainName.FindString(rest)) > 24 {
				return nil, api.ErrLimit, at
			}
			tokens = append(tokens, name(plainName.FindString(rest), at))
		case plainDigits.MatchString(rest):
			if !plainNumber.MatchString(rest) {
				return nil, api.ErrNumber, at
			}
			n := 0
			for _, digit := range plainDigits.FindString(rest) {
				n = n*10 + int(digit-'0')
			}
			tokens = append(tokens, number(plainDigits.FindString(rest), n, at))
		case plainSymbol.MatchString(rest):
			tokens = append(tokens, symbol(plainSymbol.FindString(rest), at))
		default:
			return nil, api.ErrChar, at
		}
	}
}

func lexed(t *testing.T, text string) []api.Token {
	t.Helper()
	tokens, err, at := lexer.Lex(text)
	if err != api.OK || at != 0 {
		t.Fatalf("%q: %v, %d", text, err, at)
	}
	return tokens
}

// lexedTexts are n random texts without an error.
func lexedTexts(seed uint64, n int) []string {
	random := rand.New(rand.NewPCG(5, seed))
	var texts []string
	for range n {
		texts = append(texts, randomLexed(random, 16))
	}
	return texts
}

// randomLexed returns a random text without an error: the pieces that would make one are left out.
func randomLexed(random *rand.Rand, most int) string {
	text := ""
	for range random.IntN(most + 1) {
		longer := text + pieces[random.IntN(len(pieces))]
		if _, err, _ := plainLex(longer); err == api.OK {
			text = longer
		}
	}
	return text
}

var pieces = strings.Split("a|row|seats|h_1|Z9|x_|0|7|42|1000000000|;|,|.|:|(|)|{|}|=|<|>|+|-|/|!=|<=|>=| |  |\t|\n|# a comment|#|!|_|$|\u00e9|12345678901|n1234567890123456789012345", "|")

func randomText(random *rand.Rand, most int) string {
	var text strings.Builder
	for range random.IntN(most + 1) {
		text.WriteString(pieces[random.IntN(len(pieces))])
	}
	return text.String()
}

func randomBytes(random *rand.Rand, most int) string {
	text := make([]byte, random.IntN(most+1))
	for i := range text {
		text[i] = byte(random.IntN(256))
	}
	return string(text)
}
