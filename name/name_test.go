package name

import (
	"math/rand"
	"regexp"
	"slices"
	"strconv"
	"strings"
	"testing"
	"unicode"
	"unicode/utf8"

	"tocsin/api"
)

// badBytes are texts that are not valid UTF-8: a lone byte, a lone follower, a rune cut short, an overlong form, a surrogate, a number above the last rune.
func badBytes() []string {
	return []string{"\xff", "\x80", "\xc3", "\xe6\x97", "\xf0\x9f\x98", "\xc1\x81", "\xed\xa0\x80", "\xf4\x90\x80\x80"}
}

// pieces are what random lines are made of: every kind of rune and byte that the chapter tells apart.
func pieces() []string {
	return append(badBytes(), "a", "b", "Z", "é", "日", "𝒜", "_", "0", "7", "9", "-", "=", "==", " ", "\t", "  ", "\n", "\u00a0", "\u0663", "\ufffd", "\u0301", "a=", "=a", "")
}

// randomLine joins up to most random pieces.
func randomLine(random *rand.Rand, most int) string {
	var line strings.Builder
	all := pieces()
	for range random.Intn(most + 1) {
		line.WriteString(all[random.Intn(len(all))])
	}
	return line.String()
}

func TestGoodTakesNames(t *testing.T) {
	for _, s := range []string{
		"a", "z", "A", "Z", "é", "日", "ß", "𝒜", "ª", "a0", "a9", "a_", "a__", "job_12", "aZ_09é日", "x1y2",
		strings.Repeat("a", api.MaxName), strings.Repeat("日", api.MaxName), strings.Repeat("𝒜", api.MaxName),
		"a" + strings.Repeat("_", api.MaxName-1), "a" + strings.Repeat("9", api.MaxName-1),
	} {
		if !Good(s) {
			t.Errorf("P3.1: Good(%q): false, want true", s)
		}
	}
}

func TestGoodRefusesOthers(t *testing.T) {
	bad := []string{
		"", " ", "_", "0", "9", "_a", "0a", "9a", "-a", " a", "a ", "a b", "a\tb", "a\n", "a\x00", "a-", "a.b", "a=1", "a/", "a:", "a`", "a@", "a[", "a{",
		"\u0663", "a\u0663", "a\u00b2", "a\u2164", "\u0301", "a\u0301", "\ufffd", "a\ufffd", "a\ufeff", "a‿b", "é-",
		strings.Repeat("a", api.MaxName+1), strings.Repeat("日", api.MaxName+1), strings.Repeat("a", 100000),
		"a" + strings.Repeat("_", api.MaxName), "a" + strings.Repeat("9", api.MaxName),
	}
	for _, b := range badBytes() {
		bad = append(bad, b, b+"a", "a"+b, "a"+b+"a")
	}
	for _, s := range bad {
		if Good(s) {
			t.Errorf("P3.1: Good(%q): true, want false", s)
		}
	}
}

// TestGoodByRune holds every rune in the first place and behind a letter against the chapter's words.
func TestGoodByRune(t *testing.T) {
	for r := rune(0); r <= unicode.MaxRune; r++ {
		letter := unicode.IsLetter(r)
		if Good(string(r)) != letter {
			t.Fatalf("P3.1: Good(%q): %v, want %v", string(r), !letter, letter)
		}
		if inner := letter || strings.ContainsRune("0123456789_", r); Good("a"+string(r)) != inner || Good("a"+string(r)+"a") != inner {
			t.Fatalf("P3.1: Good of a letter and %q: want %v", string(r), inner)
		}
	}
}

func TestGoodAtRandom(t *testing.T) {
	form := regexp.MustCompile(`^\pL[\pL0-9_]*$`)
	random := rand.New(rand.NewSource(3))
	for range 20000 {
		s := randomLine(random, 4)
		want := utf8.ValidString(s) && form.MatchString(s) && utf8.RuneCountInString(s) <= api.MaxName
		if Good(s) != want {
			t.Fatalf("P3.1: Good(%q): %v, want %v", s, !want, want)
		}
	}
}

func TestLen(t *testing.T) {
	for _, c := range []struct {
		s    string
		want int
	}{
		{"", 0}, {"a", 1}, {"é", 1}, {"日本", 2}, {"𝒜", 1}, {"a b\t\n", 5}, {"\x00", 1}, {"e\u0301", 2}, {"\ufffd", 1},
		{"\xff", 1}, {"\xff\xfe\xfd", 3}, {"\xe6\x97", 2}, {"\xe6\x97a", 3}, {"\xf0\x9f\x98", 3}, {"\xed\xa0\x80", 3}, {"\xf4\x90\x80\x80", 4}, {"\xc1\x81", 2}, {"a\x80é", 3},
		{strings.Repeat("日", 70000), 70000},
	} {
		if got := Len(c.s); got != c.want {
			t.Errorf("P3.1: Len(%q): %d, want %d", c.s, got, c.want)
		}
	}
	random := rand.New(rand.NewSource(4))
	for range 5000 {
		s := randomLine(random, 12)
		if got, want := Len(s), utf8.RuneCountInString(s); got != want {
			t.Fatalf("P3.1: Len(%q): %d, want %d", s, got, want)
		}
	}
}

func TestWords(t *testing.T) {
	for _, c := range []struct {
		s    string
		want []string
	}{
		{"", nil}, {" ", nil}, {"\t", nil}, {" \t \t", nil},
		{"a", []string{"a"}}, {"abc", []string{"abc"}}, {"a b", []string{"a", "b"}}, {"a\tb", []string{"a", "b"}},
		{" a", []string{"a"}}, {"a ", []string{"a"}}, {"\ta\t", []string{"a"}}, {"  \ta \t b\t\t", []string{"a", "b"}},
		{"job a r=0 d=4", []string{"job", "a", "r=0", "d=4"}}, {"b a b", []string{"b", "a", "b"}},
		{"é 日\t𝒜", []string{"é", "日", "𝒜"}}, {" 日 ", []string{"日"}},
		{"\xff \x80\t\xc3", []string{"\xff", "\x80", "\xc3"}}, {"\xe6\x97 a", []string{"\xe6\x97", "a"}}, {"\xe6 \x97", []string{"\xe6", "\x97"}},
		// No other white space separates.
		{"a\nb", []string{"a\nb"}}, {"\n", []string{"\n"}}, {"a\rb\vc\fd", []string{"a\rb\vc\fd"}},
		{"a\u00a0b\u2003c\u3000d\u0085e", []string{"a\u00a0b\u2003c\u3000d\u0085e"}}, {"a\x00b", []string{"a\x00b"}},
	} {
		if got := Words(c.s); !slices.Equal(got, c.want) {
			t.Errorf("P3.1: Words(%q): %q, want %q", c.s, got, c.want)
		}
	}
}

func TestWordsAtRandom(t *testing.T) {
	random := rand.New(rand.NewSource(5))
	for range 20000 {
		s := randomLine(random, 12)
		want := slices.DeleteFunc(strings.Split(strings.ReplaceAll(s, "\t", " "), " "), func(w string) bool { return w == "" })
		if got := Words(s); !slices.Equal(got, want) {
			t.Fatalf("P3.1: Words(%q): %q, want %q", s, got, want)
		}
	}
}

// TestWordsIsNew writes into one result and asks again: results are new memory each time.
func TestWordsIsNew(t *testing.T) {
	line := "a b c"
	first := Words(line)
	if len(first) != 3 {
		t.Fatalf("P3.1: Words(%q): %q", line, first)
	}
	first[0] = "x"
	if got := Words(line); !slices.Equal(got, []string{"a", "b", "c"}) {
		t.Errorf("P3.1, R4: Words(%q) after a write into the first result: %q", line, got)
	}
}

func TestNumReadsNumbers(t *testing.T) {
	for _, c := range []struct {
		s    string
		want int64
	}{
		{"0", 0}, {"1", 1}, {"9", 9}, {"10", 10}, {"1234567890", 1234567890}, {"-1", -1}, {"-9", -9}, {"-0", 0}, {"-10", -10},
		{"00", 0}, {"007", 7}, {"-007", -7}, {"000000000000", 0}, {"-000000000000", 0}, {"000000000009", 9},
		{"999999999999", 999999999999}, {"-999999999999", -999999999999}, {"100000000000", 100000000000}, {"123456789012", 123456789012},
		{"4294967296", 4294967296}, {"-2147483649", -2147483649},
	} {
		if got, ok := Num(c.s); got != c.want || !ok {
			t.Errorf("P3.1: Num(%q): %d, %v, want %d, true", c.s, got, ok, c.want)
		}
	}
}

func TestNumRefusesOthers(t *testing.T) {
	bad := []string{
		"", "-", "--", "--1", "-1-", "1-", "1-2", "+1", "+", "-+1", " 1", "1 ", "- 1", "\t1", "1\n", "1.0", "1e3", "0x1", "1_0", "1,000", "a", "1a", "a1", "-a",
		"/", ":", "1/", "1:", "\x00", "1\x00", "\u0663", "1\u0663", "\uff11", "\u00b2", "\u2212" + "1", "日", "\ufffd",
		"1000000000000", "-1000000000000", "0000000000000", "-0000000000000", "0000000000001", "9223372036854775808", "99999999999999999999", strings.Repeat("1", 100000),
	}
	for _, b := range badBytes() {
		bad = append(bad, b, b+"1", "1"+b, "-"+b)
	}
	for _, s := range bad {
		if got, ok := Num(s); got != 0 || ok {
			t.Errorf("P3.1: Num(%q): %d, %v, want 0, false", s, got, ok)
		}
	}
}

func TestNumAtRandom(t *testing.T) {
	form := regexp.MustCompile(`^-?[0-9]{1,12}$`)
	signs := []string{"", "", "-", "--", "+", " "}
	random := rand.New(rand.NewSource(6))
	for range 20000 {
		s := signs[random.Intn(len(signs))]
		for range random.Intn(15) {
			s += strconv.Itoa(random.Intn(10))
		}
		want, wantOk := int64(0), form.MatchString(s)
		if wantOk {
			want, _ = strconv.ParseInt(s, 10, 64)
		}
		if got, ok := Num(s); got != want || ok != wantOk {
			t.Fatalf("P3.1: Num(%q): %d, %v, want %d, %v", s, got, ok, want, wantOk)
		}
	}
}

func TestField(t *testing.T) {
	for _, c := range []struct {
		s, key, want string
		ok           bool
	}{
		{"a=1 b=2", "b", "2", true}, {"a=1 b=2", "a", "1", true}, {"\ta=1\t", "a", "1", true}, {"job x r=0 d=14", "d", "14", true},
		// The first of several words.
		{"a=1 a=2", "a", "1", true}, {"a a=1 a=2", "a", "1", true}, {"ab=1 a=2 a=3", "a", "2", true}, {"a= a=2", "a", "", true},
		// Only a word that begins with the key and has the sign right behind it.
		{"ab=1 b=2", "b", "2", true}, {"ab=1", "a", "", false}, {"ab=1", "b", "", false}, {"xa=1", "a", "", false}, {"a", "a", "", false}, {"a =1", "a", "", false}, {"a= 1", "a", "", true},
		{"A=1", "a", "", false}, {"a-=1", "a", "", false}, {"a:=1", "a", "", false}, {"", "a", "", false}, {" \t", "a", "", false}, {"=a", "a", "", false}, {"1=a", "a", "", false},
		// The value may hold signs, and so may the key.
		{"a==", "a", "=", true}, {"a=b=c", "a", "b=c", true}, {"a=b=c", "a=b", "c", true}, {"a==b", "a=", "b", true}, {"a=b=", "a=b", "", true}, {"a=b", "a=b", "", false}, {"x===y", "x=", "=y", true}, {"==", "=", "", true}, {"=", "=", "", false},
		// An empty key.
		{"=x", "", "x", true}, {"a=1 =x =y", "", "x", true}, {"=", "", "", true}, {"==", "", "=", true}, {"a=1", "", "", false}, {"a", "", "", false}, {"", "", "", false}, {"a= b", "", "", false},
		// A key with a separator in it is in no word.
		{"a b=1", "a b", "", false}, {"a\tb=1", "a\tb", "", false}, {" a=1", " a", "", false}, {"a =1", "a ", "", false}, {" =1", " ", "", false},
		// Other scripts, and bytes that are not valid UTF-8: compared bytewise.
		{"é=日 日=é", "日", "é", true}, {"e\u0301=1", "é", "", false}, {"\xff=1", "\xff", "1", true}, {"\xff=1", "\xfe", "", false}, {"\xff=1", "\ufffd", "", false}, {"\ufffd=1", "\xff", "", false},
		{"a=\xff\x80", "a", "\xff\x80", true}, {"\xe6\x97=x", "\xe6\x97", "x", true}, {"日=1", "\xe6", "", false}, {"日=1", "\xe6\x97", "", false}, {"\xe6=\x97", "\xe6", "\x97", true},
		{"a=\u00a0x\n", "a", "\u00a0x\n", true}, {"a\nb=1", "b", "", false},
	} {
		if got, ok := Field(c.s, c.key); got != c.want || ok != c.ok {
			t.Errorf("P3.1: Field(%q, %q): %q, %v, want %q, %v", c.s, c.key, got, ok, c.want, c.ok)
		}
	}
}

func TestFieldAtRandom(t *testing.T) {
	random := rand.New(rand.NewSource(7))
	found := 0
	for range 50000 {
		s, key := randomLine(random, 12), randomLine(random, 2)
		want, wantOk := "", false
		for _, w := range strings.FieldsFunc(s, func(r rune) bool { return r == ' ' || r == '\t' }) {
			if strings.HasPrefix(w, key+"=") {
				want, wantOk = w[len(key)+1:], true
				break
			}
		}
		if wantOk {
			found++
		}
		if got, ok := Field(s, key); got != want || ok != wantOk {
			t.Fatalf("P3.1: Field(%q, %q): %q, %v, want %q, %v", s, key, got, ok, want, wantOk)
		}
	}
	if found < 1000 {
		t.Errorf("only %d of the random lines have the key", found)
	}
}
