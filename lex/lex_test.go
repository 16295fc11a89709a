package lex_test

import (
	"math"
	"regexp"
	"slices"
	"strconv"
	"strings"
	"testing"

	"umbral/api"
	"umbral/lex"
)

// words holds the Keys, marks the Marks, as the chapter names them.
func words() []string {
	return strings.Fields("struct int void null new free if else while input")
}

func marks() []string {
	return strings.Fields("-> == != >= { } ( ) ; , * = < + - ?")
}

// told is what Next answers.
type told struct {
	sign lex.Sign
	end  int
	err  api.Errno
}

func next(src string, at int) told {
	sign, end, err := lex.Next(src, at)
	return told{sign, end, err}
}

func sign(kind, at int, text string, n int) told {
	return told{lex.Sign{Kind: kind, At: at, Text: text, N: n}, at + len(text), api.OK}
}

func fault(at int, err api.Errno) told {
	return told{lex.Sign{At: at}, at, err}
}

// same holds what Next answers against what it is to answer.
func same(t *testing.T, src string, at int, want told) {
	t.Helper()
	if got := next(src, at); got != want {
		t.Errorf("Next(%s, %d): %v, want %v", short(src), at, got, want)
	}
}

// short is a text that one can read, however long it is.
func short(s string) string {
	if len(s) > 60 {
		return strconv.Quote(s[:60]) + ".."
	}
	return strconv.Quote(s)
}

var (
	blanks = regexp.MustCompile(`^(?:[ \t\n\r]|//[^\n]*)*`)
	word   = regexp.MustCompile(`^[A-Za-z_][A-Za-z_0-9]*`)
	digits = regexp.MustCompile(`^[0-9]+`)
	mark   = regexp.MustCompile(`^(?:->|==|!=|>=|[{}();,*=<+?-])`)
)

// model is what Next is to answer, by patterns.
func model(src string, at int) told {
	at = min(max(at, 0), len(src))
	at += len(blanks.FindString(src[at:]))
	rest := src[at:]
	if rest == "" {
		return sign(lex.End, at, "", 0)
	}
	if s := word.FindString(rest); s != "" {
		switch {
		case len(s) > 16:
			return fault(at, api.ErrLong)
		case slices.Contains(words(), s):
			return sign(lex.Key, at, s, 0)
		}
		return sign(lex.Name, at, s, 0)
	}
	if s := digits.FindString(rest); s != "" {
		n, err := strconv.Atoi(s)
		if len(s) > 9 || err != nil {
			return fault(at, api.ErrLong)
		}
		return sign(lex.Number, at, s, n)
	}
	if s := mark.FindString(rest); s != "" {
		return sign(lex.Mark, at, s, 0)
	}
	return fault(at, api.ErrSign)
}

// modelAll is what All is to answer, by the model of Next.
func modelAll(src string) ([]lex.Sign, int, api.Errno) {
	if len(src) > 65536 {
		return nil, 0, api.ErrLong
	}
	var signs []lex.Sign
	for at := 0; ; {
		m := model(src, at)
		if m.err != api.OK {
			return nil, m.end, m.err
		}
		signs = append(signs, m.sign)
		if m.sign.Kind == lex.End {
			return signs, 0, api.OK
		}
		at = m.end
	}
}

// sameAll holds what All answers against what it is to answer.
func sameAll(t *testing.T, src string, signs []lex.Sign, at int, err api.Errno) {
	t.Helper()
	got, gotAt, gotErr := lex.All(src)
	if !slices.Equal(got, signs) || gotAt != at || gotErr != err {
		t.Errorf("All(%s): %v, %d, %v, want %v, %d, %v", short(src), got, gotAt, gotErr, signs, at, err)
	}
}

// texts goes over all texts of up to n of the pieces.
func texts(n int, pieces []string, yield func(string)) {
	yield("")
	if n == 0 {
		return
	}
	for _, p := range pieces {
		texts(n-1, pieces, func(s string) { yield(p + s) })
	}
}

// pieces holds bytes of each sort, and beginnings of all Marks of two bytes.
func pieces() []string {
	return []string{"a", "Z", "_", "0", "9", " ", "\n", "\r", "/", "-", ">", "=", "!", "<", ";", "\x00", "\x80", "if"}
}

type lot uint64

func (s *lot) below(n int) int {
	*s = *s*6364136223846793005 + 1442695040888963407
	return int(uint64(*s>>33) % uint64(n))
}

// text makes a text of n pieces by lot; wrong ones are there only if bad.
func (s *lot) text(n int, bad bool) string {
	of := append(words(), marks()...)
	of = append(of, " ", "\n", "\t", "\r", "//", "// a -> \x80\n", "x", "y1", "_", "Struct", "0", "007", "42", "999999999", " iff ")
	if bad {
		of = append(of, ">", "!", "/", "\x7f", "é", "\xff", "1234567890", "a2345678901234567")
	}
	var b strings.Builder
	for range n {
		b.WriteString(of[s.below(len(of))])
		if !bad {
			b.WriteString(" \n"[s.below(2):][:1])
		}
	}
	return b.String()
}

// P4.1

func TestIsKey(t *testing.T) {
	for _, s := range words() {
		if !lex.IsKey(s) {
			t.Errorf("%q is no Key", s)
		}
		for _, other := range []string{
			s + "s", "s" + s, s + "_", "_" + s, s + "0", s[1:], s[:len(s)-1], s + s, s + " ", " " + s, s + "\x00",
			strings.ToUpper(s), strings.ToUpper(s[:1]) + s[1:], s[:len(s)-1] + strings.ToUpper(s[len(s)-1:]),
		} {
			if lex.IsKey(other) {
				t.Errorf("%q is a Key", other)
			}
		}
	}
}

func TestIsKeyOfOthers(t *testing.T) {
	for _, s := range append(marks(), "", " ", "x", "_", "0", "main", "t", "for", "return", "do", "struct int", "\xff", "whіle", strings.Repeat("if", 40000)) {
		if lex.IsKey(s) {
			t.Errorf("%s is a Key", short(s))
		}
	}
}

func TestIsName(t *testing.T) {
	for _, s := range []string{
		"x", "_", "__", "A", "z", "Z", "a", "x1", "x_1", "_0", "main", "Struct", "structs", "iff", "i", "whil", "while_", "new0", "NULL",
		"a234567890123456", "________________", "ABCDEFGHIJKLMNOP", "structstructstru",
	} {
		if !lex.IsName(s) {
			t.Errorf("%q is no Name", s)
		}
	}
	wrong := append(words(), marks()...)
	for _, s := range append(wrong, "", " ", "0", "0x", "1a", "9", " x", "x ", "x y", "x\n", "x->n", "x-", "-x", "x;", "x//", "x\x00", "\x00",
		"é", "aé", "\xff", "a\x80", "a23456789012345é", "a2345678901234567", "_________________", strings.Repeat("a", 70000)) {
		if lex.IsName(s) {
			t.Errorf("%s is a Name", short(s))
		}
	}
}

func TestIsNameByLength(t *testing.T) {
	for n := range 40 {
		s := strings.Repeat("n", n)
		if got, want := lex.IsName(s), n >= 1 && n <= 16; got != want {
			t.Errorf("%q, of %d bytes, is a Name: %v", s, n, got)
		}
	}
}

// Each byte is tried alone, behind a letter, and ahead of one.
func TestIsNameOfAllBytes(t *testing.T) {
	for b := range 256 {
		letter := b == '_' || b >= 'a' && b <= 'z' || b >= 'A' && b <= 'Z'
		digit := b >= '0' && b <= '9'
		s := string([]byte{byte(b)})
		if lex.IsName(s) != letter || lex.IsName(s+"x") != letter {
			t.Errorf("byte %d begins a Name: %v", b, lex.IsName(s))
		}
		for _, longer := range []string{"x" + s, "x" + s + "x", "abcdefghijklmno" + s} {
			if lex.IsName(longer) != (letter || digit) {
				t.Errorf("byte %d stands in a Name: %v", b, lex.IsName(longer))
			}
		}
	}
}

// A Name is just what Next reads as one, from end to end.
func TestIsNameIsWhatNextReads(t *testing.T) {
	texts(4, pieces(), func(s string) {
		m := next(s, 0)
		want := m.err == api.OK && m.sign.Kind == lex.Name && m.sign.Text == s
		if lex.IsName(s) != want {
			t.Errorf("%q is a Name: %v", s, lex.IsName(s))
		}
		key := m.err == api.OK && m.sign.Kind == lex.Key && m.sign.Text == s
		if lex.IsKey(s) != key {
			t.Errorf("%q is a Key: %v", s, lex.IsKey(s))
		}
	})
}

// P4.2

func TestKinds(t *testing.T) {
	got := [5]int{lex.End, lex.Name, lex.Number, lex.Key, lex.Mark}
	if got != [5]int{0, 1, 2, 3, 4} {
		t.Errorf("kinds: %v", got)
	}
}

func TestNextOfKeys(t *testing.T) {
	for _, s := range words() {
		same(t, s, 0, sign(lex.Key, 0, s, 0))
		same(t, "\t"+s+"*", 0, sign(lex.Key, 1, s, 0))
		same(t, s+"s", 0, sign(lex.Name, 0, s+"s", 0))
		same(t, "s"+s, 0, sign(lex.Name, 0, "s"+s, 0))
		same(t, s+"1", 0, sign(lex.Name, 0, s+"1", 0))
		same(t, s+"_", 0, sign(lex.Name, 0, s+"_", 0))
		same(t, s[:len(s)-1], 0, sign(lex.Name, 0, s[:len(s)-1], 0))
		same(t, strings.ToUpper(s), 0, sign(lex.Name, 0, strings.ToUpper(s), 0))
		same(t, "1"+s, 1, sign(lex.Key, 1, s, 0))
	}
}

func TestNextOfNames(t *testing.T) {
	long := "abcdefghijklmn_0"
	same(t, long, 0, sign(lex.Name, 0, long, 0))
	same(t, "  "+long+" x", 0, sign(lex.Name, 2, long, 0))
	same(t, long+"x", 0, fault(0, api.ErrLong))
	same(t, "  "+long+"9;", 0, fault(2, api.ErrLong))
	same(t, long+"x", 1, sign(lex.Name, 1, long[1:]+"x", 0))
	same(t, "structstructstruct", 0, fault(0, api.ErrLong))
	same(t, strings.Repeat("z", 100000), 0, fault(0, api.ErrLong))
	same(t, long+"\x80", 0, sign(lex.Name, 0, long, 0))
	same(t, "x1y2", 0, sign(lex.Name, 0, "x1y2", 0))
	same(t, "x1y2", 1, sign(lex.Number, 1, "1", 1))
	same(t, "é", 0, fault(0, api.ErrSign))
	same(t, "aé", 0, sign(lex.Name, 0, "a", 0))
}

func TestNextOfNumbers(t *testing.T) {
	for _, c := range []struct {
		src, text string
		n         int
	}{
		{"0", "0", 0}, {"7", "7", 7}, {"10", "10", 10}, {"007", "007", 7}, {"000000000", "000000000", 0},
		{"000000001", "000000001", 1}, {"999999999", "999999999", 999999999}, {"123456789", "123456789", 123456789},
		{"100000000;", "100000000", 100000000}, {"12ab", "12", 12}, {"1_0", "1", 1}, {"0x10", "0", 0}, {"3.5", "3", 3}, {"5\x80", "5", 5},
	} {
		same(t, c.src, 0, sign(lex.Number, 0, c.text, c.n))
		same(t, "\n//9\n"+c.src, 0, sign(lex.Number, 5, c.text, c.n))
	}
	for _, s := range []string{"1000000000", "0000000000", "0000000001", "1234567890", "9223372036854775808", strings.Repeat("9", 100000)} {
		same(t, s, 0, fault(0, api.ErrLong))
		same(t, " "+s+"a", 0, fault(1, api.ErrLong))
	}
	same(t, "1234567890", 1, sign(lex.Number, 1, "234567890", 234567890))
	same(t, "-5", 0, sign(lex.Mark, 0, "-", 0))
	same(t, "12 34", 0, sign(lex.Number, 0, "12", 12))
}

func TestNextOfMarks(t *testing.T) {
	for _, s := range marks() {
		for _, behind := range []string{"", " ", "x", "0", ";", "\n", "//", "\xff"} {
			same(t, s+behind, 0, sign(lex.Mark, 0, s, 0))
			same(t, " \t"+s+behind, 1, sign(lex.Mark, 2, s, 0))
		}
	}
	for _, c := range []struct {
		src  string
		want told
	}{
		{"-", sign(lex.Mark, 0, "-", 0)}, {"--", sign(lex.Mark, 0, "-", 0)}, {"-->", sign(lex.Mark, 0, "-", 0)},
		{"->>", sign(lex.Mark, 0, "->", 0)}, {"- >", sign(lex.Mark, 0, "-", 0)}, {"-=", sign(lex.Mark, 0, "-", 0)},
		{"=", sign(lex.Mark, 0, "=", 0)}, {"=!", sign(lex.Mark, 0, "=", 0)}, {"=>", sign(lex.Mark, 0, "=", 0)}, {"= =", sign(lex.Mark, 0, "=", 0)},
		{"===", sign(lex.Mark, 0, "==", 0)}, {"!==", sign(lex.Mark, 0, "!=", 0)}, {">==", sign(lex.Mark, 0, ">=", 0)},
		{"<=", sign(lex.Mark, 0, "<", 0)}, {"<-", sign(lex.Mark, 0, "<", 0)}, {"++", sign(lex.Mark, 0, "+", 0)},
		{"!", fault(0, api.ErrSign)}, {"! =", fault(0, api.ErrSign)}, {"!!=", fault(0, api.ErrSign)}, {"!x", fault(0, api.ErrSign)},
		{">", fault(0, api.ErrSign)}, {"> =", fault(0, api.ErrSign)}, {">>=", fault(0, api.ErrSign)}, {">-", fault(0, api.ErrSign)},
	} {
		same(t, c.src, 0, c.want)
	}
	same(t, "->", 1, fault(1, api.ErrSign))
	same(t, "!=", 1, sign(lex.Mark, 1, "=", 0))
	same(t, "===", 1, sign(lex.Mark, 1, "==", 0))
}

func TestNextLeavesBlanksBehind(t *testing.T) {
	for _, s := range []string{" ", "\t", "\n", "\r", "\r\n", " \t\n\r ", "//\n", "// x->n\n", "//\r\n", "////\n", "//a//b\n", " // a\n\t// b\n", "//\x80\xff\n", "//é\n\n"} {
		same(t, s+"x y", 0, sign(lex.Name, len(s), "x", 0))
		same(t, "x"+s+"y", 1, sign(lex.Name, 1+len(s), "y", 0))
		same(t, s, 0, sign(lex.End, len(s), "", 0))
		same(t, s+">", 0, fault(len(s), api.ErrSign))
		same(t, s+"1234567890", 0, fault(len(s), api.ErrLong))
	}
	for _, s := range []string{"//", "// a", "//\r", " //x;", "\n//\t//", "//\r\r;"} {
		same(t, s, 0, sign(lex.End, len(s), "", 0))
	}
	for _, s := range []string{"/", "/ /", "/*", "/\n/", "/;"} {
		same(t, s, 0, fault(0, api.ErrSign))
		same(t, " "+s, 0, fault(1, api.ErrSign))
	}
	same(t, "x/", 1, fault(1, api.ErrSign))
	same(t, "//x", 1, fault(1, api.ErrSign))
	same(t, "//x y", 2, sign(lex.Name, 2, "x", 0))
	same(t, "///x", 1, sign(lex.End, 4, "", 0))
	same(t, "//\n/", 0, fault(3, api.ErrSign))
}

func TestNextAtEnd(t *testing.T) {
	for _, s := range []string{"", "x", "x;", "  ", "//", "\xff", "1234567890"} {
		n := len(s)
		for _, at := range []int{n, n + 1, n + 100, math.MaxInt} {
			same(t, s, at, sign(lex.End, n, "", 0))
		}
		for _, at := range []int{-1, -2, -100, math.MinInt} {
			same(t, s, at, next(s, 0))
		}
	}
	same(t, "x y", -1, sign(lex.Name, 0, "x", 0))
	same(t, "x y", math.MinInt, sign(lex.Name, 0, "x", 0))
	same(t, "> y", -7, fault(0, api.ErrSign))
	same(t, "x y ", 3, sign(lex.End, 4, "", 0))
}

// A text may be longer than All takes.
func TestNextOfLongTexts(t *testing.T) {
	long := strings.Repeat(" ", 70000) + "x"
	same(t, long, 0, sign(lex.Name, 70000, "x", 0))
	same(t, long, 70001, sign(lex.End, 70001, "", 0))
	same(t, "//"+strings.Repeat("x", 70000)+"\n;", 0, sign(lex.Mark, 70003, ";", 0))
}

func TestNextOfAllBytes(t *testing.T) {
	begins := "abcdefghijklmnopqrstuvwxyzABCDEFGHIJKLMNOPQRSTUVWXYZ_0123456789{}();,*=<+-?"
	for a := range 256 {
		s := string([]byte{byte(a)})
		m := next(s, 0)
		switch {
		case strings.Contains(begins, s) && a < 128:
			if m.err != api.OK || m.sign.Text != s || m.end != 1 {
				t.Errorf("byte %d: %v", a, m)
			}
		case a == 32 || a == 9 || a == 10 || a == 13:
			same(t, s, 0, sign(lex.End, 1, "", 0))
		default:
			same(t, s, 0, fault(0, api.ErrSign))
		}
		for b := range 256 {
			s := string([]byte{byte(a), byte(b)})
			same(t, s, 0, model(s, 0))
		}
	}
}

func TestNextOfShortTexts(t *testing.T) {
	texts(4, pieces(), func(s string) {
		for at := -1; at <= len(s)+1; at++ {
			if got, want := next(s, at), model(s, at); got != want {
				t.Fatalf("Next(%q, %d): %v, want %v", s, at, got, want)
			}
		}
	})
}

func TestNextByLot(t *testing.T) {
	s := lot(4)
	for n := range 300 {
		src := s.text(n%60, n%2 == 0)
		for at := -2; at <= len(src)+2; at++ {
			same(t, src, at, model(src, at))
		}
	}
}

// P4.3

func TestAllOfChapter(t *testing.T) {
	sameAll(t, "x->n = y;", []lex.Sign{
		{Kind: lex.Name, At: 0, Text: "x"}, {Kind: lex.Mark, At: 1, Text: "->"}, {Kind: lex.Name, At: 3, Text: "n"},
		{Kind: lex.Mark, At: 5, Text: "="}, {Kind: lex.Name, At: 7, Text: "y"}, {Kind: lex.Mark, At: 8, Text: ";"},
		{Kind: lex.End, At: 9},
	}, 0, api.OK)
}

func TestAll(t *testing.T) {
	sameAll(t, "while(a<10){b=a-007;}// end", []lex.Sign{
		{Kind: lex.Key, At: 0, Text: "while"}, {Kind: lex.Mark, At: 5, Text: "("}, {Kind: lex.Name, At: 6, Text: "a"},
		{Kind: lex.Mark, At: 7, Text: "<"}, {Kind: lex.Number, At: 8, Text: "10", N: 10}, {Kind: lex.Mark, At: 10, Text: ")"},
		{Kind: lex.Mark, At: 11, Text: "{"}, {Kind: lex.Name, At: 12, Text: "b"}, {Kind: lex.Mark, At: 13, Text: "="},
		{Kind: lex.Name, At: 14, Text: "a"}, {Kind: lex.Mark, At: 15, Text: "-"}, {Kind: lex.Number, At: 16, Text: "007", N: 7},
		{Kind: lex.Mark, At: 19, Text: ";"}, {Kind: lex.Mark, At: 20, Text: "}"}, {Kind: lex.End, At: 27},
	}, 0, api.OK)
	for _, s := range []string{"", " ", "\t\r\n", "//", "// x\n", "  // x\n//"} {
		sameAll(t, s, []lex.Sign{{Kind: lex.End, At: len(s)}}, 0, api.OK)
	}
	sameAll(t, "12ab", []lex.Sign{{Kind: lex.Number, At: 0, Text: "12", N: 12}, {Kind: lex.Name, At: 2, Text: "ab"}, {Kind: lex.End, At: 4}}, 0, api.OK)
}

func TestAllOfWrongTexts(t *testing.T) {
	for _, c := range []struct {
		src string
		at  int
		err api.Errno
	}{
		{">", 0, api.ErrSign}, {"x >", 2, api.ErrSign}, {"x = y > z; !", 6, api.ErrSign}, {"a ! b", 2, api.ErrSign}, {"a->>b", 3, api.ErrSign},
		{"x / y", 2, api.ErrSign}, {"// x\n@", 5, api.ErrSign}, {"x = \"y\"", 4, api.ErrSign}, {"\x00", 0, api.ErrSign}, {"x\x00", 1, api.ErrSign},
		{"\xef\xbb\xbfx", 0, api.ErrSign}, {"x\u00a0y", 1, api.ErrSign}, {"x\v", 1, api.ErrSign}, {"x\f", 1, api.ErrSign}, {"\xff", 0, api.ErrSign},
		{"1234567890", 0, api.ErrLong}, {"x = 1234567890;", 4, api.ErrLong}, {"x = 0000000000 > y", 4, api.ErrLong}, {"> 1234567890", 0, api.ErrSign},
		{"a2345678901234567", 0, api.ErrLong}, {"a b2345678901234567 >", 2, api.ErrLong}, {"1234567890 a2345678901234567", 0, api.ErrLong},
		{"x;" + strings.Repeat(" ", 65533) + "@", 65535, api.ErrSign},
	} {
		sameAll(t, c.src, nil, c.at, c.err)
	}
}

func TestAllOfLongTexts(t *testing.T) {
	marks, blank, remark := strings.Repeat(";", 65536), strings.Repeat(" ", 65536), "//"+strings.Repeat("x", 65534)
	signs, at, err := lex.All(marks)
	if len(signs) != 65537 || at != 0 || err != api.OK || signs[65536] != (lex.Sign{At: 65536}) {
		t.Errorf("65536 Marks: %d signs, %d, %v", len(signs), at, err)
	}
	for i, s := range signs[:min(len(signs), 65536)] {
		if s != (lex.Sign{Kind: lex.Mark, At: i, Text: ";"}) {
			t.Fatalf("Mark %d: %v", i, s)
		}
	}
	sameAll(t, blank, []lex.Sign{{At: 65536}}, 0, api.OK)
	sameAll(t, remark, []lex.Sign{{At: 65536}}, 0, api.OK)
	for _, s := range []string{marks + ";", blank + " ", remark + "x", "@" + blank, blank + "@", strings.Repeat("9", 65537), strings.Repeat("\xff", 200000)} {
		sameAll(t, s, nil, 0, api.ErrLong)
	}
	sameAll(t, strings.Repeat("n", 65536), nil, 0, api.ErrLong)
	sameAll(t, blank[1:]+"@", nil, 65535, api.ErrSign)
}

func TestAllOfShortTexts(t *testing.T) {
	texts(4, pieces(), func(s string) {
		signs, at, err := modelAll(s)
		sameAll(t, s, signs, at, err)
	})
}

func TestAllByLot(t *testing.T) {
	s := lot(44)
	for n := range 600 {
		src := s.text(n%200, n%2 == 0)
		signs, at, err := modelAll(src)
		if n%2 == 1 && err != api.OK {
			t.Fatalf("a right text is wrong: %q: %v", src, err)
		}
		sameAll(t, src, signs, at, err)
	}
}

// R3: an answer is new memory, its spare room too.
func TestAllIsNewMemory(t *testing.T) {
	const src = "x -> y == 7; while"
	want, _, _ := modelAll(src)
	first, _, _ := lex.All(src)
	spare := first[:cap(first)]
	for i := range spare {
		spare[i] = lex.Sign{Kind: 9, At: -1, Text: "spoilt", N: 9}
	}
	sameAll(t, src, want, 0, api.OK)
	a, _, _ := lex.All(src)
	b, _, _ := lex.All(src)
	a[0].Text = "spoilt"
	if !slices.Equal(b, want) {
		t.Errorf("one answer changed another one: %v", b)
	}
}

// P4.4

// behind holds that signs stand one behind the other, with nothing but blanks between.
func behind(t *testing.T, src string, signs []lex.Sign) {
	t.Helper()
	at := 0
	for i, s := range signs {
		last := i == len(signs)-1
		if (s.Kind == lex.End) != last || (s.Text == "") != last {
			t.Fatalf("%s: sign %d of %d: %v", short(src), i, len(signs), s)
		}
		if s.At < at || blanks.FindString(src[at:s.At]) != src[at:s.At] {
			t.Fatalf("%s: sign %d at %d, the one ahead ends at %d", short(src), i, s.At, at)
		}
		if src[s.At:s.At+len(s.Text)] != s.Text {
			t.Fatalf("%s: sign %d: %q does not stand there", short(src), i, s.Text)
		}
		at = s.At + len(s.Text)
	}
	if at != len(src) {
		t.Fatalf("%s: the End is at %d", short(src), at)
	}
}

// again holds that the texts of signs, with a blank between, have the same signs.
func again(t *testing.T, signs []lex.Sign) {
	t.Helper()
	var texts []string
	for _, s := range signs {
		texts = append(texts, s.Text)
	}
	src := strings.Join(texts, " ")
	got, at, err := lex.All(src)
	if len(got) != len(signs) || at != 0 || err != api.OK {
		t.Fatalf("All(%s): %d signs, %d, %v, want %d", short(src), len(got), at, err, len(signs))
	}
	for i, s := range signs {
		got[i].At = s.At
		if got[i] != s {
			t.Fatalf("All(%s): sign %d: %v, want %v", short(src), i, got[i], s)
		}
	}
}

func TestWhatFollows(t *testing.T) {
	check := func(src string) {
		t.Helper()
		signs, _, err := lex.All(src)
		if err == api.OK {
			behind(t, src, signs)
			again(t, signs)
		}
	}
	texts(4, pieces(), check)
	check("x->n = y;")
	check("struct t{t*n;}t*x;void main(){while(?){x=new t;if(x!=null){x->n=x;}}free(x);}//end")
	s := lot(444)
	for n := range 400 {
		check(s.text(n%200, false))
		check(s.text(n%9, true))
	}
}

// Signs of two that stand side by side may be one; a blank between keeps them two.
func TestBlankParts(t *testing.T) {
	signs := append(append(words(), marks()...), "x", "_9", "0", "42")
	for _, a := range signs {
		for _, b := range signs {
			got, at, err := lex.All(a + " " + b)
			if len(got) != 3 || at != 0 || err != api.OK || got[0].Text != a || got[1].Text != b {
				t.Errorf("%q and %q: %v, %d, %v", a, b, got, at, err)
			}
		}
	}
}
