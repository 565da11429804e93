package value_test

import (
	"math"
	"strings"
	"testing"

	"pedigree/api"
	"pedigree/value"
)

func keywords() []string {
	return []string{"not", "count", "sum", "min", "max", "len", "chars", "back"}
}

func checkShow(t *testing.T, v api.Value, want string) {
	t.Helper()
	if s, e := value.Show(v); s != want || e != api.OK {
		t.Errorf("Show(%#v) = %s, %d; want %s", v, s, e, want)
	}
	if got, e := value.Read(want); got != v || e != api.OK {
		t.Errorf("Read(%s) = %#v, %d; want %#v", want, got, e, v)
	}
}

func wantUnreadable(t *testing.T, s string) {
	t.Helper()
	if v, e := value.Read(s); v != (api.Value{}) || e != api.ErrValue {
		t.Errorf("Read(%q) = %#v, %d; want ErrValue", s, v, e)
	}
}

// P1.5, P1.6
func TestShow(t *testing.T) {
	for _, c := range []struct {
		v    api.Value
		want string
	}{
		{num(0), "0"},
		{num(-5), "-5"},
		{num(10), "10"},
		{num(math.MaxInt64), "9223372036854775807"},
		{num(math.MinInt64), "-9223372036854775808"},
		{text("bo"), "bo"},
		{text("a"), "a"},
		{text("z"), "z"},
		{text("aZ09_"), "aZ09_"},
		{text("q_x1"), "q_x1"},
		{text("Bo"), `"Bo"`},
		{text("_"), `"_"`},
		{text("_a"), `"_a"`},
		{text("5"), `"5"`},
		{text("5a"), `"5a"`},
		{text("-5"), `"-5"`},
		{text(""), `""`},
		{text("a b"), `"a b"`},
		{text("a-b"), `"a-b"`},
		{text("`a"), "\"`a\""},
		{text("a{"), `"a{"`},
		{text("a@["), `"a@["`},
		{text("a/:"), `"a/:"`},
		{text("a\n\"\\\xff"), `"a\n\"\\\xff"`},
		{text("\t\r\x00\x1f"), `"\x09\x0d\x00\x1f"`},
		{text(" ~\x7f\x80"), `" ~\x7f\x80"`},
		{text("é"), `"\xc3\xa9"`},
		{text(`\n`), `"\\n"`},
		{text(`"`), `"\""`},
	} {
		checkShow(t, c.v, c.want)
	}
}

func TestShowOfKeywords(t *testing.T) {
	for _, k := range keywords() {
		checkShow(t, text(k), `"`+k+`"`)
		wantUnreadable(t, k)
		checkShow(t, text(k+"s"), k+"s")
		checkShow(t, text(k[:len(k)-1]), k[:len(k)-1])
		checkShow(t, text(strings.ToUpper(k)), `"`+strings.ToUpper(k)+`"`)
	}
}

func TestShowAtTheLimits(t *testing.T) {
	long := strings.Repeat("a", api.MaxLong)
	checkShow(t, text(long), long)
	checkShow(t, text(long+"a"), `"`+long+`a"`)
	wantUnreadable(t, long+"a")
	wantUnreadable(t, `"`+long+`"`)
	most := strings.Repeat("A", api.MaxText)
	checkShow(t, text(most), `"`+most+`"`)
	wantUnreadable(t, `"`+most+`A"`)
	bytes := strings.Repeat("\xff", api.MaxText)
	checkShow(t, text(bytes), `"`+strings.Repeat(`\xff`, api.MaxText)+`"`)
	wantUnreadable(t, `"`+strings.Repeat(`\xff`, api.MaxText+1)+`"`)
	wantUnreadable(t, strings.Repeat("a", 1<<20))
	wantUnreadable(t, strings.Repeat("9", 1<<20))
	wantUnreadable(t, `"`+strings.Repeat(`\x`, 1<<19)+`"`)
}

// P1.5: each byte by itself, and behind a small letter, where it decides whether the text is a name.
func TestShowOfEachByte(t *testing.T) {
	const inName = "abcdefghijklmnopqrstuvwxyzABCDEFGHIJKLMNOPQRSTUVWXYZ0123456789_"
	for b := range 256 {
		s := string([]byte{byte(b)})
		told := shownByte(byte(b))
		first, behind := `"`+told+`"`, `"z`+told+`"`
		if b >= 'a' && b <= 'z' {
			first = s
		}
		if strings.Contains(inName, s) {
			behind = "z" + s
		}
		checkShow(t, text(s), first)
		checkShow(t, text("z"+s), behind)
	}
}

func shownByte(b byte) string {
	const digits = "0123456789abcdef"
	switch {
	case b == 10:
		return `\n`
	case b == 34:
		return `\"`
	case b == 92:
		return `\\`
	case b >= 32 && b <= 126:
		return string(rune(b))
	}
	return `\x` + digits[b/16:b/16+1] + digits[b%16:b%16+1]
}

func TestShowOfWhatIsNoValue(t *testing.T) {
	for _, v := range notValues() {
		if s, e := value.Show(v); s != "" || e != api.ErrValue {
			t.Errorf("Show(%#v) = %q, %d; want ErrValue", v, s, e)
		}
	}
}

// P1.6: what no value is shown as.
func TestReadRefuses(t *testing.T) {
	for _, s := range []string{
		"", " ", "-", "--5", "-0", "00", "05", "-05", "+5", "5.", "5e1", "0x5", "1_000", " 5", "5 ", "5a", "9223372036854775808", "-9223372036854775809", "99999999999999999999999",
		"Bo", "_", "_a", "a b", "bo ", " bo", "bo\n", "é", "\xff", "a.", "a\x00",
		`"`, `"""`, `"bo"`, `"Bo`, `Bo"`, `"Bo" `, ` "Bo"`, `'Bo'`, "`Bo`", `"a"b"`, `"\"`, `"\`, `"\\\"`,
		`"\x41"`, `"\x0a"`, `"\x22"`, `"\x5c"`, `"\x7F"`, `"\xFF"`, `"\xf"`, `"\x"`, `"\xfg"`, `"\xff`, `"\x+f"`, `"\x_f"`, `"\X0f"`,
		`"\a"`, `"\t"`, `"\r"`, `"\0"`, `"\377"`, `"\u00e9"`, `"\'"`, `"\ "`, "\"\\\n\"",
		"\"\n\"", "\"\t\"", "\"\x7f\"", "\"\xff\"", "\"é\"",
	} {
		wantUnreadable(t, s)
	}
	for _, k := range keywords() {
		wantUnreadable(t, k)
	}
}
