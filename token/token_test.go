package token_test

import (
	"math/rand"
	"regexp"
	"slices"
	"strings"
	"testing"

	"apportion/api"
	"apportion/token"
)

const (
	maxBytes  = 200
	maxTokens = 40
	letters   = "ABCDEFGHIJKLMNOPQRSTUVWXYZabcdefghijklmnopqrstuvwxyz"
	digits    = "0123456789"
	joints    = "-/'."
	signs     = ",#"
)

// others are the bytes of a line that separate parts and have no other meaning.
func others() string {
	s := "\t"
	for b := 32; b <= 126; b++ {
		if !strings.Contains(letters+digits+joints+signs, string(rune(b))) {
			s += string(rune(b))
		}
	}
	return s
}

func word(s string) api.Token   { return api.Token{Kind: 1, Text: s} }
func number(s string) api.Token { return api.Token{Kind: 2, Text: s} }
func mixed(s string) api.Token  { return api.Token{Kind: 3, Text: s} }
func comma() api.Token          { return api.Token{Kind: 4, Text: ","} }
func hash() api.Token           { return api.Token{Kind: 5, Text: "#"} }

func isIn(set string, s string, i int) bool {
	return i >= 0 && i < len(s) && strings.IndexByte(set, s[i]) >= 0
}

// isWordByte is the document's definition of a word byte.
func isWordByte(s string, i int) bool {
	plain := letters + digits
	return isIn(plain, s, i) || isIn(joints, s, i) && isIn(plain, s, i-1) && isIn(plain, s, i+1)
}

// partAs is the token that a part is.
func partAs(s string) api.Token {
	t := mixed(strings.ToUpper(s))
	if isIn(letters, s, 0) {
		t.Kind = api.TokenWord
	} else if strings.Trim(s, digits) == "" {
		t.Kind = api.TokenNumber
	}
	return t
}

// divided is the tokens of s and where they begin, as the document defines them, without any limit.
func divided(s string) ([]api.Token, []int) {
	var l []api.Token
	var starts []int
	for i := 0; i < len(s); i++ {
		start := i
		for isWordByte(s, i) {
			i++
		}
		if i > start {
			l, starts = append(l, partAs(s[start:i])), append(starts, start)
		}
		switch {
		case isIn(",", s, i):
			l, starts = append(l, comma()), append(starts, i)
		case isIn("#", s, i):
			l, starts = append(l, hash()), append(starts, i)
		}
	}
	return l, starts
}

// modelTokens is what Tokens ought to answer.
func modelTokens(s string) ([]api.Token, api.Fault) {
	if len(s) > maxBytes {
		return nil, api.Fault{Err: api.ErrLong}
	}
	for i := range len(s) {
		if s[i] != 9 && (s[i] < 32 || s[i] > 126) {
			return nil, api.Fault{Err: api.ErrBytes, At: i}
		}
	}
	l, starts := divided(s)
	if len(l) > maxTokens {
		return nil, api.Fault{Err: api.ErrFull, At: starts[maxTokens]}
	}
	return l, api.Fault{}
}

func checkTokens(t *testing.T, s string) {
	t.Helper()
	want, fault := modelTokens(s)
	got, f := token.Tokens(s)
	if f != fault || !slices.Equal(got, want) {
		t.Errorf("Tokens(%q) = %v, %v, not %v, %v", s, got, f, want, fault)
	}
}

func expectTokens(t *testing.T, s string, want ...api.Token) {
	t.Helper()
	if got, f := token.Tokens(s); f != (api.Fault{}) || !slices.Equal(got, want) {
		t.Errorf("Tokens(%q) = %v, %v, not %v", s, got, f, want)
	}
}

func expectFault(t *testing.T, s string, e api.Errno, at int) {
	t.Helper()
	if got, f := token.Tokens(s); f != (api.Fault{Err: e, At: at}) || len(got) != 0 {
		t.Errorf("Tokens(%q) = %v, %v, not %v at %d", s, got, f, e, at)
	}
}

func expectText(t *testing.T, l []api.Token, want string, e api.Errno) {
	t.Helper()
	if got, err := token.Text(l); got != want || err != e {
		t.Errorf("Text(%v) = %q, %v, not %q, %v", l, got, err, want, e)
	}
}

// texts calls f with each text of so many of the parts.
func texts(parts []string, n int, f func(s string)) {
	var grow func(s string, left int)
	grow = func(s string, left int) {
		if left == 0 {
			f(s)
			return
		}
		for _, p := range parts {
			grow(s+p, left-1)
		}
	}
	grow("", n)
}

func TestTokensExamples(t *testing.T) {
	expectTokens(t, "12 Main St., #4", number("12"), word("MAIN"), word("ST"), comma(), hash(), number("4"))
	expectTokens(t, "12-1/2 o'neil's", mixed("12-1/2"), word("O'NEIL'S"))
	expectTokens(t, "-a..b-", word("A"), word("B"))
	expectTokens(t, "1st", mixed("1ST"))
	expectFault(t, "a\n", api.ErrBytes, 1)
}

func TestTokensOfOneKind(t *testing.T) {
	for _, s := range []string{"", " ", "\t", " \t ", "-", "-/'.", "..", "- -", "!$%&()*+:;<=>?@[\\]^_`{|}~\""} {
		expectTokens(t, s)
	}
	for _, s := range []string{"A", "MAIN", "A1", "A1B2", "A-1", "A-1-2", "O'NEIL'S", "N.E", "A.B.C", "Z/9"} {
		expectTokens(t, s, word(s))
	}
	for _, s := range []string{"0", "7", "007", "0123456789", strings.Repeat("9", 200)} {
		expectTokens(t, s, number(s))
	}
	for _, s := range []string{"1ST", "1A", "1-2", "1/2", "12-1/2", "1.5", "10001-0002", "1'2", "0A0"} {
		expectTokens(t, s, mixed(s))
	}
	expectTokens(t, ",", comma())
	expectTokens(t, "#", hash())
}

func TestTokensWithoutBlanks(t *testing.T) {
	expectTokens(t, "a,b#c", word("A"), comma(), word("B"), hash(), word("C"))
	expectTokens(t, ",,##", comma(), comma(), hash(), hash())
	expectTokens(t, "a.,b-#c", word("A"), comma(), word("B"), hash(), word("C"))
	expectTokens(t, "a,.b#-c", word("A"), comma(), word("B"), hash(), word("C"))
	expectTokens(t, "1!a@2", number("1"), word("A"), number("2"))
	expectTokens(t, "a_b", word("A"), word("B"))
	expectTokens(t, "a\tb", word("A"), word("B"))
}

// TestJoints: one of the four is a word byte between two letters or digits alone.
func TestJoints(t *testing.T) {
	for _, j := range strings.Split(joints, "") {
		expectTokens(t, "a"+j+"b", word("A"+j+"B"))
		expectTokens(t, "1"+j+"2", mixed("1"+j+"2"))
		expectTokens(t, "a"+j+"1", word("A"+j+"1"))
		expectTokens(t, "1"+j+"a", mixed("1"+j+"A"))
		expectTokens(t, "a"+j+"b"+j+"c", word("A"+j+"B"+j+"C"))
		expectTokens(t, j+"a", word("A"))
		expectTokens(t, j+"7", number("7"))
		expectTokens(t, "a"+j, word("A"))
		expectTokens(t, "7"+j, number("7"))
		expectTokens(t, "a"+j+" b", word("A"), word("B"))
		expectTokens(t, "a "+j+"b", word("A"), word("B"))
		expectTokens(t, "a"+j+",", word("A"), comma())
		expectTokens(t, "#"+j+"a", hash(), word("A"))
		for _, k := range strings.Split(joints, "") {
			expectTokens(t, "1"+j+k+"2", number("1"), number("2"))
			expectTokens(t, j+k+"a"+j+k, word("A"))
			expectTokens(t, "1"+j+k+j+"2", number("1"), number("2"))
			expectTokens(t, "1"+j+"a"+k+"2", mixed("1"+j+"A"+k+"2"))
		}
	}
}

func TestTokensOfAllShortLines(t *testing.T) {
	alphabet := strings.Split("aZ7-.,# \n", "")
	for n := range 6 {
		texts(alphabet, n, func(s string) { checkTokens(t, s) })
	}
	texts(strings.Split("a7-.,#", ""), 7, func(s string) { checkTokens(t, s) })
}

// TestEachByteNextToOthers has each byte, and each pair, between bytes that may make a word of them.
func TestEachByteNextToOthers(t *testing.T) {
	for b := range 256 {
		one := string([]byte{byte(b)})
		for _, ahead := range []string{"", "a", "7", "-", ",", " "} {
			for _, behind := range []string{"", "Z", "0", ".", "#", "\t"} {
				checkTokens(t, ahead+one+behind)
			}
		}
		for c := range 256 {
			checkTokens(t, "a"+one+string([]byte{byte(c)})+"7")
		}
	}
}

func TestEachByteHasItsMeaning(t *testing.T) {
	count := 0
	for _, s := range strings.Split(letters, "") {
		expectTokens(t, s, word(strings.ToUpper(s)))
		count++
	}
	for _, s := range strings.Split(digits, "") {
		expectTokens(t, s, number(s))
		count++
	}
	for _, s := range strings.Split(joints, "") {
		expectTokens(t, "a"+s+"b", word("A"+s+"B"))
		count++
	}
	for _, s := range strings.Split(others(), "") {
		expectTokens(t, "a"+s+"b", word("A"), word("B"))
		count++
	}
	if count+len(signs) != 96 {
		t.Error(count)
	}
	for b := range 256 {
		if b != 9 && (b < 32 || b > 126) {
			expectFault(t, string([]byte{byte(b)}), api.ErrBytes, 0)
			expectFault(t, "ab "+string([]byte{byte(b)})+"c", api.ErrBytes, 3)
		}
	}
}

// TestTokensByPattern holds lines without limits against a pattern.
func TestTokensByPattern(t *testing.T) {
	pattern := regexp.MustCompile(`[A-Za-z0-9]+(?:[-/'.][A-Za-z0-9]+)*|[,#]`)
	r := rand.New(rand.NewSource(1))
	for range 20000 {
		s := randomLine(r, r.Intn(40))
		l, f := token.Tokens(s)
		var got []string
		for _, x := range l {
			got = append(got, x.Text)
		}
		want := pattern.FindAllString(strings.ToUpper(s), -1)
		if f != (api.Fault{}) || !slices.Equal(got, want) {
			t.Errorf("Tokens(%q) = %q, %v, not %q", s, got, f, want)
		}
	}
}

// randomLine has so many bytes, word bytes for the most part.
func randomLine(r *rand.Rand, n int) string {
	sets := []string{letters, letters, digits, digits, joints, signs, others(), " "}
	b := make([]byte, n)
	for i := range b {
		set := sets[r.Intn(len(sets))]
		b[i] = set[r.Intn(len(set))]
	}
	return string(b)
}

func TestTokensOfRandomLines(t *testing.T) {
	r := rand.New(rand.NewSource(2))
	faults := map[api.Errno]int{}
	for range 20000 {
		b := []byte(randomLine(r, r.Intn(207)))
		for len(b) > 0 && r.Intn(3) == 0 {
			b[r.Intn(len(b))] = byte(r.Intn(256))
		}
		s := string(b)
		_, f := modelTokens(s)
		faults[f.Err]++
		checkTokens(t, s)
	}
	for _, e := range []api.Errno{api.OK, api.ErrLong, api.ErrBytes, api.ErrFull} {
		if faults[e] < 100 {
			t.Error(e, faults[e])
		}
	}
}

func TestTokensOfLongLines(t *testing.T) {
	expectTokens(t, strings.Repeat("a", 200), word(strings.Repeat("A", 200)))
	expectTokens(t, strings.Repeat(" ", 199)+"a", word("A"))
	expectTokens(t, strings.Repeat(" ", 200))
	for _, s := range []string{"a", " ", "\n", ",", "\xff"} {
		expectFault(t, strings.Repeat(s, 201), api.ErrLong, 0)
		expectFault(t, strings.Repeat(s, 1<<16), api.ErrLong, 0)
	}
	expectFault(t, strings.Repeat("a", 200)+"\n", api.ErrLong, 0)
	expectFault(t, strings.Repeat("a", 199)+"\n", api.ErrBytes, 199)
	// Bytes count, not letters.
	expectFault(t, strings.Repeat("é", 100), api.ErrBytes, 0)
	expectFault(t, strings.Repeat("é", 101), api.ErrLong, 0)
}

func TestTheFirstWrongByteIsTold(t *testing.T) {
	expectFault(t, "a\x00b\x00", api.ErrBytes, 1)
	expectFault(t, "é", api.ErrBytes, 0)
	expectFault(t, "caf\u00e9 \n", api.ErrBytes, 3)
	expectFault(t, "a\r\n", api.ErrBytes, 1)
	expectFault(t, " \x1f", api.ErrBytes, 1)
	expectFault(t, "~\x7f", api.ErrBytes, 1)
	expectFault(t, "\x80", api.ErrBytes, 0)
	expectFault(t, "\x08", api.ErrBytes, 0)
	expectFault(t, "\x0b", api.ErrBytes, 0)
	// A wrong byte behind too many tokens comes first.
	expectFault(t, strings.Repeat(",", 60)+"\n", api.ErrBytes, 60)
	expectFault(t, strings.Repeat("a ", 50)+"\n", api.ErrBytes, 100)
}

func TestTokensOfFullLines(t *testing.T) {
	forty := strings.Repeat("a ", 40)
	expectTokens(t, forty, slices.Repeat([]api.Token{word("A")}, 40)...)
	expectTokens(t, forty+strings.Repeat(" .-!", 20), slices.Repeat([]api.Token{word("A")}, 40)...)
	expectTokens(t, strings.Repeat(",", 40), slices.Repeat([]api.Token{comma()}, 40)...)
	expectFault(t, forty+"a", api.ErrFull, 80)
	expectFault(t, forty+"a.", api.ErrFull, 80)
	expectFault(t, forty+"  .7-7 , b", api.ErrFull, 83)
	expectFault(t, forty+" !, b", api.ErrFull, 82)
	expectFault(t, forty+"..#", api.ErrFull, 82)
	expectFault(t, strings.Repeat("#", 200), api.ErrFull, 40)
	expectFault(t, strings.Repeat("ab", 40)+strings.Repeat(",", 60), api.ErrFull, 119)
	expectFault(t, strings.Repeat("a1,", 66), api.ErrFull, 60)
}

func TestUpper(t *testing.T) {
	for b := range 256 {
		want := byte(b)
		if 'a' <= b && b <= 'z' {
			want = byte(b) - 32
		}
		if got := token.Upper(string([]byte{byte(b)})); got != string([]byte{want}) {
			t.Errorf("Upper of byte %d = %q", b, got)
		}
	}
	for s, want := range map[string]string{
		"":                   "",
		"o'Neil 12-a\n":      "O'NEIL 12-A\n",
		"aZ{1\xe4":           "AZ{1\xe4",
		"stra\u00dfe \u00e9": "STRA\u00dfE \u00e9",
		"`az{@AZ[":           "`AZ{@AZ[",
		"\xff\x00z":          "\xff\x00Z",
	} {
		if got := token.Upper(s); got != want || token.Upper(got) != want {
			t.Errorf("Upper(%q) = %q, not %q", s, got, want)
		}
	}
	if got := token.Upper(strings.Repeat("ab", 1<<16)); got != strings.Repeat("AB", 1<<16) {
		t.Error(len(got))
	}
}

func TestTextExamples(t *testing.T) {
	l, _ := token.Tokens("12 Main St., #4")
	expectText(t, l, "12 MAIN ST, #4", api.OK)
	expectText(t, []api.Token{word("a")}, "", api.ErrArg)
	expectText(t, []api.Token{word("A B")}, "", api.ErrArg)
	expectText(t, nil, "", api.OK)
	expectText(t, []api.Token{}, "", api.OK)
	expectText(t, []api.Token{hash()}, "#", api.OK)
	expectText(t, []api.Token{comma()}, ",", api.OK)
	expectText(t, []api.Token{hash(), comma()}, "#,", api.OK)
	expectText(t, []api.Token{comma(), hash()}, ", #", api.OK)
	expectText(t, []api.Token{hash(), hash(), number("1")}, "##1", api.OK)
	expectText(t, []api.Token{comma(), comma(), number("1")}, ",, 1", api.OK)
	expectText(t, []api.Token{word("A"), hash(), mixed("1/2"), number("3")}, "A #1/2 3", api.OK)
}

// notValid are tokens that are not the only ones of their texts.
func notValid() []api.Token {
	l := []api.Token{{}, {Kind: 1}, {Kind: 2}, {Kind: 3}, {Kind: 4}, {Kind: 5}, {Text: "A"}, {Text: ","}}
	for _, kind := range []int{-1 << 63, -1, 0, 6, 1<<63 - 1} {
		l = append(l, api.Token{Kind: kind, Text: "A"}, api.Token{Kind: kind, Text: "1"}, api.Token{Kind: kind, Text: "#"})
	}
	for i, s := range []string{"A", "1", "1A", ",", "#"} {
		for kind := 1; kind <= 5; kind++ {
			if kind != i+1 {
				l = append(l, api.Token{Kind: kind, Text: s})
			}
		}
	}
	for _, s := range []string{"a", "Aa", "A ", " A", "A.", ".A", "A-", "A..B", "A--B", "A B", "A,", ",A", "#A", "A\n", "\u00c9", "A\xff", "A_B", "-", " "} {
		l = append(l, word(s))
	}
	for _, s := range []string{"1 ", " 1", "1.", "-1", "1A", "1,", "1 2", "1-2", "\u0661", "1\x00"} {
		l = append(l, number(s))
	}
	for _, s := range []string{"1a", "1A.", "1-", "1--2", "1 A", "A1", "12", "1A,2B"} {
		l = append(l, mixed(s))
	}
	return append(l, api.Token{Kind: 4, Text: ",,"}, api.Token{Kind: 4, Text: ", "}, api.Token{Kind: 5, Text: "##"}, api.Token{Kind: 5, Text: "#1"}, word(strings.Repeat("A", 201)))
}

func TestTextOfTokensThatAreNotValid(t *testing.T) {
	for _, x := range notValid() {
		expectText(t, []api.Token{x}, "", api.ErrArg)
		expectText(t, []api.Token{word("A"), x}, "", api.ErrArg)
		expectText(t, []api.Token{x, hash(), number("1")}, "", api.ErrArg)
		last := append(slices.Repeat([]api.Token{comma()}, 39), x)
		expectText(t, last, "", api.ErrArg)
		// The errors have an order: too many, then not valid, then too long.
		expectText(t, append(last, x), "", api.ErrFull)
		expectText(t, []api.Token{word(strings.Repeat("A", 150)), word(strings.Repeat("B", 150)), x}, "", api.ErrArg)
	}
}

func TestTextOfMany(t *testing.T) {
	for _, n := range []int{41, 42, 1000} {
		expectText(t, slices.Repeat([]api.Token{comma()}, n), "", api.ErrFull)
		expectText(t, make([]api.Token, n), "", api.ErrFull)
		expectText(t, slices.Repeat([]api.Token{word(strings.Repeat("A", 9))}, n), "", api.ErrFull)
	}
	expectText(t, slices.Repeat([]api.Token{comma()}, 40), strings.Repeat(",", 40), api.OK)
	expectText(t, slices.Repeat([]api.Token{hash()}, 40), strings.Repeat("#", 40), api.OK)
	expectText(t, slices.Repeat([]api.Token{number("7")}, 40), strings.Repeat("7 ", 39)+"7", api.OK)
}

func TestTextOfLongOnes(t *testing.T) {
	a := func(n int) string { return strings.Repeat("A", n) }
	expectText(t, []api.Token{word(a(200))}, a(200), api.OK)
	expectText(t, []api.Token{word(a(198)), number("1")}, a(198)+" 1", api.OK)
	expectText(t, []api.Token{word(a(199)), number("1")}, "", api.ErrLong)
	expectText(t, []api.Token{word(a(199)), comma()}, a(199)+",", api.OK)
	expectText(t, []api.Token{word(a(200)), comma()}, "", api.ErrLong)
	expectText(t, []api.Token{hash(), word(a(199))}, "#"+a(199), api.OK)
	expectText(t, []api.Token{hash(), word(a(200))}, "", api.ErrLong)
	expectText(t, []api.Token{word(a(198)), hash()}, a(198)+" #", api.OK)
	expectText(t, []api.Token{word(a(199)), hash()}, "", api.ErrLong)
	expectText(t, []api.Token{comma(), word(a(198))}, ", "+a(198), api.OK)
	expectText(t, []api.Token{comma(), word(a(199))}, "", api.ErrLong)
	// The blanks alone may make a line of enough bytes too long.
	expectText(t, slices.Repeat([]api.Token{word(a(4))}, 40), strings.Repeat(a(4)+" ", 39)+a(4), api.OK)
	expectText(t, append(slices.Repeat([]api.Token{word(a(4))}, 39), word(a(5))), strings.Repeat(a(4)+" ", 39)+a(5), api.OK)
	expectText(t, append(slices.Repeat([]api.Token{word(a(4))}, 39), word(a(6))), "", api.ErrLong)
	expectText(t, slices.Repeat([]api.Token{word(a(200))}, 40), "", api.ErrLong)
}

// joined is the text of tokens, without any limit.
func joined(l []api.Token) string {
	s := ""
	for _, x := range l {
		s += " " + x.Text
	}
	s = strings.TrimPrefix(s, " ")
	return strings.ReplaceAll(strings.ReplaceAll(s, " ,", ","), "# ", "#")
}

// isReadBack checks P15.3: the tokens of a text of tokens are these tokens.
func isReadBack(t *testing.T, l []api.Token) {
	t.Helper()
	s, e := token.Text(l)
	if want := joined(l); len(want) > maxBytes {
		if e != api.ErrLong || s != "" {
			t.Errorf("Text(%v) = %q, %v", l, s, e)
		}
		return
	} else if e != api.OK || s != want {
		t.Errorf("Text(%v) = %q, %v, not %q", l, s, e, want)
		return
	}
	expectTokens(t, s, l...)
}

func TestTextsAreReadBack(t *testing.T) {
	all := []api.Token{word("A"), number("7"), mixed("1/2"), comma(), hash(), word("N.E")}
	var lists func(l []api.Token)
	lists = func(l []api.Token) {
		isReadBack(t, l)
		if len(l) < 5 {
			for _, x := range all {
				lists(append(slices.Clone(l), x))
			}
		}
	}
	lists(nil)
}

func TestRandomTextsAreReadBack(t *testing.T) {
	r := rand.New(rand.NewSource(3))
	for range 20000 {
		var l []api.Token
		for range r.Intn(41) {
			found, _ := divided(strings.ToUpper(randomLine(r, 1+r.Intn(10))))
			if len(found) > 0 {
				l = append(l, found[0])
			}
		}
		isReadBack(t, l)
	}
}

// TestTextOfTheTokensOfALine: it has the same tokens, and is then its own text.
func TestTextOfTheTokensOfALine(t *testing.T) {
	r := rand.New(rand.NewSource(4))
	for range 20000 {
		line := randomLine(r, r.Intn(60))
		l, f := token.Tokens(line)
		s, e := token.Text(l)
		if f.Err != api.OK || e != api.OK {
			t.Errorf("%q: %v %v", line, f, e)
			continue
		}
		expectTokens(t, s, l...)
		expectText(t, l, s, api.OK)
	}
}

// written is a line of l in another way: with letters of any size, blanks, and points behind words.
func written(r *rand.Rand, l []api.Token) string {
	gaps := others()
	s := ""
	gap := func() {
		for r.Intn(3) == 0 {
			s += string(gaps[r.Intn(len(gaps))])
		}
	}
	gap()
	for i, x := range l {
		if i > 0 && x.Kind <= api.TokenMixed && l[i-1].Kind <= api.TokenMixed {
			s += " "
		}
		gap()
		for _, b := range strings.Split(x.Text, "") {
			if r.Intn(2) == 0 {
				b = strings.ToLower(b)
			}
			s += b
		}
		if x.Kind <= api.TokenMixed && r.Intn(3) == 0 {
			s += strings.Repeat(".", 1+r.Intn(2))
		}
		gap()
	}
	return s
}

// TestWritingDoesNotMatter is P15.4.
func TestWritingDoesNotMatter(t *testing.T) {
	r := rand.New(rand.NewSource(5))
	for range 20000 {
		l, _ := divided(strings.ToUpper(randomLine(r, r.Intn(20))))
		s := written(r, l)
		if len(s) > maxBytes {
			continue
		}
		expectTokens(t, s, l...)
	}
	want, _ := token.Tokens("12 Main St, Apt 4, St Louis")
	for _, s := range []string{"12 main st,apt 4,st louis", "  12\tMAIN   ST. ,  APT. 4. , St. Louis. ", "12 Main St...,Apt 4,St Louis", "12. mAIN sT,aPT 4,sT lOUIS"} {
		expectTokens(t, s, want...)
	}
}

// TestAnswersAreNewMemory: no answer shares anything with an argument or another answer.
func TestAnswersAreNewMemory(t *testing.T) {
	line := "1 Main St, #b"
	first, _ := token.Tokens(line)
	second, _ := token.Tokens(line)
	kept := slices.Clone(second)
	clear(first[:cap(first)])
	if !slices.Equal(second, kept) {
		t.Error(second)
	}
	expectTokens(t, line, kept...)
	room := append(slices.Clone(kept), word("a"), api.Token{Kind: 9, Text: "9"})
	before := slices.Clone(room)
	expectText(t, room[:len(kept)], "1 MAIN ST, #B", api.OK)
	if !slices.Equal(room, before) {
		t.Error(room)
	}
}
