package action_test

import (
	"math"
	"strconv"
	"strings"
	"testing"

	"umbral/action"
	"umbral/api"
)

// P11.2, P11.4
func TestTextsOfSamples(t *testing.T) {
	for _, s := range samples() {
		if got := action.Text(s.act); got != s.text {
			t.Errorf("Text(%+v): %q, want %q", s.act, got, s.text)
		}
		if got, err := action.Parse(s.text); got != s.act || err != api.OK {
			t.Errorf("Parse(%q): %+v, %v, want %+v", s.text, got, err, s.act)
		}
		holdAction(t, s.act)
		holdText(t, s.text)
	}
}

func TestTextOfWhatIsNotRight(t *testing.T) {
	for _, a := range []api.Action{
		{Kind: -1}, {Kind: 13}, {Kind: math.MinInt}, {Kind: math.MaxInt},
		{At: -1}, {At: 65537}, {X: 1}, {Sense: true},
		{Kind: api.DoNull, X: -1}, {Kind: api.DoNull, X: 24}, {Kind: api.DoNull, Sense: true},
		{Kind: api.DoCut, F: 8}, {Kind: api.DoNew, T: -1}, {Kind: api.DoTake, X: -1},
		{Kind: api.DoSame, X: -2}, {Kind: api.DoSame, Y: 24},
		{Kind: api.DoPut, Op: 3}, {Kind: api.DoPut, Op: -1}, {Kind: api.DoPut, R: variable(1)}, {Kind: api.DoPut, L: number(-1)}, {Kind: api.DoPut, L: number(1000000000)},
		{Kind: api.DoTest, Op: 2}, {Kind: api.DoTest, L: variable(-2)}, {Kind: api.DoTest, R: variable(24)},
	} {
		if got := action.Text(a); got != "" {
			t.Errorf("Text(%+v): %q", a, got)
		}
	}
}

// All variables, fields, structs, Ops and Senses, and places that grow.
func TestAllTexts(t *testing.T) {
	for x := -1; x < 25; x++ {
		for y := -1; y < 25; y++ {
			at := 2621 * (x + 1)
			for k := range 9 {
				holdAction(t, api.Action{Kind: api.DoLoad, X: x, Y: y, F: k, At: at})
				holdAction(t, api.Action{Kind: api.DoLink, X: x, Y: y, F: k, At: at})
				holdAction(t, api.Action{Kind: api.DoCut, X: x, F: k, At: at + y})
				holdAction(t, api.Action{Kind: api.DoNew, X: x, T: k, At: at + y})
			}
			for _, kind := range []int{api.DoNull, api.DoFree, api.DoTake} {
				holdAction(t, api.Action{Kind: kind, X: x, At: at + y})
			}
			holdAction(t, api.Action{Kind: api.DoCopy, X: x, Y: y, At: at})
			for _, sense := range []bool{false, true} {
				holdAction(t, api.Action{Kind: api.DoSame, X: x, Y: y, At: at, Sense: sense})
				for op := -1; op < 4; op++ {
					holdAction(t, api.Action{Kind: api.DoTest, Op: op, L: variable(x), R: variable(y), At: at, Sense: sense})
					holdAction(t, api.Action{Kind: api.DoTest, Op: op, L: variable(x), R: number(y), At: at, Sense: sense})
				}
			}
			for op := -1; op < 4; op++ {
				holdAction(t, api.Action{Kind: api.DoPut, X: x, Op: op, L: number(at), R: variable(y), At: 7})
				holdAction(t, api.Action{Kind: api.DoPut, X: x, Op: op, L: variable(y), R: number(at), At: 7})
				holdAction(t, api.Action{Kind: api.DoPut, X: x, Op: op, L: variable(y), At: 7})
			}
		}
	}
}

func TestAllPlaces(t *testing.T) {
	for at := -2; at < 65540; at++ {
		holdAction(t, api.Action{At: at})
		holdAction(t, api.Action{Kind: api.DoPick, At: at, Sense: true})
		holdText(t, "free p7 @"+strconv.Itoa(at))
	}
}

// Numbers of one digit up to nine, and what is beyond.
func TestNumbersOfAllLengths(t *testing.T) {
	for n := 1; n <= 10000000000; n *= 10 {
		for _, m := range []int{-n, n - 1, n, n + 1, 7 * n} {
			holdAction(t, api.Action{Kind: api.DoPut, L: number(m), At: 1})
			holdAction(t, api.Action{Kind: api.DoPut, Op: 1, L: number(1), R: number(m), At: 1})
			holdAction(t, api.Action{Kind: api.DoTest, L: number(m), R: number(m)})
			holdText(t, "put i0 "+strconv.Itoa(m)+" @1")
			holdText(t, "put i0 1 + "+strconv.Itoa(m)+" @1")
			holdText(t, "test "+strconv.Itoa(m)+" == "+strconv.Itoa(m)+" no @0")
		}
	}
}

func bad(t *testing.T, of ...string) {
	t.Helper()
	for _, s := range of {
		if a, err := action.Parse(s); a != (api.Action{}) || err != api.ErrBad {
			t.Errorf("Parse(%.100q): %+v, %v, want ErrBad", s, a, err)
		}
	}
}

func TestParseOfOtherTexts(t *testing.T) {
	bad(t, "", " ", "  ", "\t", "\n", "\x00", "@", "@1", " @1", "skip", "skip ", "skip @", "skip@1", "ok", "DoSkip @1", "move p1 @1", "0 @1", "7", "null", "yes", "no",
		"skip @65537", "skip @-1", "skip @+1", "skip @01", "skip @00", "skip @1x", "skip @1.0", "skip @0x1", "skip @1_0", "skip @ 1", "skip 1", "skip 1@", "skip @@1", "skip @1@", "skip @1 @1", "skip #1", "skip p1", "skip @p1",
		"skip @9223372036854775807", "skip @9223372036854775808", "skip @18446744073709551616", "skip @18446744073709551617", "skip @-9223372036854775808", "skip @4294967296", "skip @4294967297",
		"null @1", "null p @1", "null p24 @1", "null p-1 @1", "null p+1 @1", "null p01 @1", "null p1", "null p1 @", "null p1 p2 @1", "null i1 @1", "null f1 @1", "null s1 @1", "null 1 @1", "null null @1", "null P1 @1", "null pp1 @1", "null p1 @1 yes", "null p18446744073709551617 @1",
		"copy p1 @1", "copy p1 p2 p3 @1", "copy p1 null @1", "copy null p1 @1", "copy p1 i2 @1", "copy p1 p2 f0 @1", "copy p1, p2 @1",
		"load p1 p2 @7", "load p1 f0 p2 @7", "load p1 p2 f8 @7", "load p1 p2 f-1 @7", "load p1 p2 f @7", "load p1 p2 f00 @7", "load p1 p2 s0 @7", "load p1 p2 0 @7", "load p1 null f0 @7", "load null p2 f0 @7", "load p1 p2 f0 f1 @7", "load p1 p2 f0 yes @7", "load p1 p2 f0", "load p1 p2 f0 @7 @7",
		"cut p1 @1", "cut f0 p1 @1", "cut p1 f0 p2 @1", "cut null f0 @1", "cut p1 s0 @1", "cut p1 null @1",
		"link p1 p2 f0 @1", "link p1 f0 @1", "link p1 f0 null @1", "link null f0 p1 @1", "link f0 p1 p2 @1",
		"new p1 @1", "new p1 f0 @1", "new p1 s8 @1", "new p1 s @1", "new p1 s01 @1", "new p1 t0 @1", "new s0 p1 @1", "new null s0 @1", "new p1 s0 yes @1",
		"free null @1", "free @1", "free p1 p2 @1", "free p1 yes @1")
}

func TestParseOfOtherBranches(t *testing.T) {
	bad(t, "same p1 p2 @1", "same p1 yes @1", "same p1 p2 yes", "same p1 p2 yes no @1", "same p1 p2 true @1", "same p1 p2 Yes @1", "same p1 p2 y @1", "same p1 p2 @1 yes", "same p-1 p2 yes @1", "same p1 p-1 yes @1", "same p1 -1 yes @1", "same nulls p1 yes @1", "same Null p1 yes @1", "same NULL p1 yes @1", "same p1 nul yes @1", "same pnull p1 yes @1", "same p1 i2 yes @1", "same p24 p1 yes @1", "same p1 p24 no @1", "same p1 == p2 yes @1", "same 0 0 yes @0",
		"pick @1", "pick yes", "pick ? @1", "pick 1 @1", "pick yes yes @1", "pick yesno @1", "pick YES @1", "pick @1 yes", "pick null @1",
		"take @1", "take p1 @1", "take 1 @1", "take i @1", "take i24 @1", "take i-1 @1", "take null @1", "take i1 i2 @1", "take i1 yes @1", "take I1 @1", "take j1 @1", "take i01 @1",
		"test i0 @1", "test i0 < @1", "test i0 < 3 @4", "test i0 < 3 no", "test < i0 3 no @4", "test i0 3 < no @4", "test i0 3 no @4", "test i0 > 3 no @4", "test i0 >= 3 no @4", "test i0 != 3 no @4", "test i0 <= 3 no @4", "test i0 = 3 no @4", "test i0 === 3 no @4", "test i0 + 3 no @4", "test i0<3 no @4", "test i0 < 3no @4", "test i24 < 3 no @4", "test i0 < i24 no @4", "test i0 < -1 no @4", "test i-1 < 1 no @4", "test i0 < null no @4", "test null < 3 no @4", "test p0 < 3 no @4", "test i0 < 3 < 4 no @4", "test i0 < 3 no yes @4", "test i0 < 3 maybe @4", "test i0 < 03 no @4", "test i0 < +3 no @4", "test i0 < 1000000000 no @4", "test 1000000000 == i0 no @4", "test i0 < 0000000003 no @4")
}

func TestParseOfOtherSums(t *testing.T) {
	bad(t, "put @1", "put i0 @1", "put i0 i1", "put i0 i1 +", "put i0 i1 + @1", "put i0 i1 + i2", "put i0 + i1 @1", "put i0 i1 i2 @1", "put i0 i1 * i2 @1", "put i0 i1 ++ i2 @1", "put i0 i1 +i2 @1", "put i0 i1+ i2 @1", "put i0 i1+i2 @1", "put i0 i1 -2 @1", "put i0 i1 +2 @1", "put i0 -2 @1", "put i0 +2 @1", "put i0 -0 @1", "put i0 00 @1", "put i0 07 @1", "put i0 i1 + 07 @1", "put i0 i1 - -7 @1", "put i0 i1 - +7 @1", "put i0 i1 + i2 + i3 @1", "put i0 i1 + i2 yes @1", "put i0 i1 yes @1", "put i0 i1 == i2 @1", "put i0 i1 < i2 @1",
		"put 0 i1 @1", "put p0 i1 @1", "put i24 i1 @1", "put i-1 i1 @1", "put null i1 @1", "put i0 p1 @1", "put i0 null @1", "put i0 i @1", "put i0 i24 @1", "put i0 i1 + i24 @1", "put i0 i1 - i @1", "put i0 i1 - null @1", "put i0 i-1 @1", "put i0 i1 + i-1 @1", "put i0 I1 @1", "put i0 = i1 @1",
		"put i0 1000000000 @1", "put i0 i1 - 1000000000 @1", "put i0 9999999999 @1", "put i0 4294967296 @1", "put i0 18446744073709551617 @1", "put i0 18446744073709551616 + 1 @1", "put i0 9223372036854775808 @1", "put i0 1e3 @1", "put i0 0x1 @1", "put i0 1_000 @1", "put i0 1.5 @1", "put i0 seven @1", "put i18446744073709551616 7 @1")
}

// Blanks stand between words alone, and are blanks.
func TestParseOfOtherBlanks(t *testing.T) {
	for _, s := range samples() {
		for _, blank := range []string{"  ", "\t", "\n", "\r\n", "\v", "\x00", "\u00a0", ",", "_", "", " \t", "\n "} {
			bad(t, strings.ReplaceAll(s.text, " ", blank))
		}
		for _, more := range []string{" ", "\n", "\t", "\r", "\x00", "0x", " @1", ";", "//"} {
			bad(t, more+s.text, s.text+more)
		}
		bad(t, strings.Replace(s.text, " ", "  ", 1), s.text+s.text, s.text+" "+s.text, s.text+"\n"+s.text)
	}
}

// Letters of another case, and words of other kinds.
func TestParseOfOtherWords(t *testing.T) {
	var heads []string
	for _, s := range samples() {
		head, _, _ := strings.Cut(s.text, " ")
		heads = append(heads, head)
	}
	for _, s := range samples() {
		head, tail, _ := strings.Cut(s.text, " ")
		bad(t, strings.ToUpper(s.text), strings.ToUpper(head)+" "+tail, strings.ToUpper(head[:1])+head[1:]+" "+tail, head[1:]+" "+tail, head[:2]+" "+tail, head+"s "+tail, "do"+head+" "+tail)
		for _, other := range heads {
			holdText(t, other+" "+tail)
		}
	}
}

// A word less, a word more, two words that stand the other way round, and each word in the place of another one.
func TestParseOfWordsElsewhere(t *testing.T) {
	more := []string{"", "null", "p0", "p23", "p24", "i0", "i23", "f0", "s0", "0", "7", "999999999", "+", "-", "==", "<", "yes", "no", "@0", "@", "skip", "put", "\xff"}
	join := func(lists ...[]string) string {
		var all []string
		for _, l := range lists {
			all = append(all, l...)
		}
		return strings.Join(all, " ")
	}
	for _, s := range samples() {
		l := strings.Split(s.text, " ")
		for i := range l {
			holdText(t, join(l[:i], l[i+1:]))
			holdText(t, join(l[:i]))
			if i > 0 {
				holdText(t, join(l[:i-1], []string{l[i], l[i-1]}, l[i+1:]))
			}
			for _, word := range more {
				holdText(t, join(l[:i], []string{word}, l[i:]))
				holdText(t, join(l[:i], []string{word}, l[i+1:]))
				holdText(t, join(l, []string{word}))
			}
		}
	}
}

// Each byte away, each byte another one, and each byte between each two.
func TestParseOfOtherBytes(t *testing.T) {
	read := 0
	for _, s := range samples() {
		for i := range len(s.text) + 1 {
			if i < len(s.text) {
				holdText(t, s.text[:i]+s.text[i+1:])
			}
			for b := range 256 {
				text := s.text[:i] + string([]byte{byte(b)}) + s.text[i:]
				holdText(t, text)
				if texts.MatchString(text) {
					read++
				}
				if i < len(s.text) {
					holdText(t, s.text[:i]+string([]byte{byte(b)})+s.text[i+1:])
				}
			}
		}
	}
	if read < 100 {
		t.Errorf("only %d texts that are read", read)
	}
}

// All texts of some words.
func TestParseOfAllShortTexts(t *testing.T) {
	words := []string{"skip", "null", "same", "pick", "take", "put", "test", "free", "p1", "i1", "7", "+", "<", "yes", "@5"}
	var grow func(text string, left int)
	grow = func(text string, left int) {
		holdText(t, text)
		if left == 0 {
			return
		}
		for _, word := range words {
			grow(text+" "+word, left-1)
		}
	}
	for _, word := range words {
		grow(word, 4)
	}
}

func TestParseOfLongTexts(t *testing.T) {
	const long = 1 << 22
	for _, s := range samples() {
		bad(t, s.text+strings.Repeat("0", long), s.text+strings.Repeat(" ", long), s.text+strings.Repeat(" @1", long/3))
	}
	for _, piece := range []string{" ", "a", "1", "0", "@", "skip ", "null ", "p1 ", "\x00", "\xff", "put i0 ", "i"} {
		text := strings.Repeat(piece, long/len(piece))
		bad(t, text, "skip @"+text, "null p"+text+" @1", "put i0 "+text+" @1", "put i0 1 + "+text+" @1", "test "+text+" < 3 no @4", "pick "+text+"@1", text+" @1")
	}
}
