package exact_test

import (
	"strings"
	"testing"

	"gridworks/api"
	"gridworks/exact"
)

// P1.1: texts that tell numbers.
func TestReadTells(t *testing.T) {
	for _, c := range []struct{ text, want string }{
		{"0", "0"}, {"-0", "0"}, {"000", "0"}, {"0.0", "0"}, {"-0.00", "0"}, {"0/7", "0"}, {"-0/007", "0"},
		{"7", "7"}, {"-7", "-7"}, {"007", "7"}, {"-0010", "-10"}, {"100", "100"},
		{"-1.50", "-3/2"}, {"1.0", "1"}, {"0.25", "1/4"}, {"00.5", "1/2"}, {"12.5", "25/2"}, {"-3.000", "-3"}, {"0.05", "1/20"}, {"-0.1", "-1/10"},
		{"6/4", "3/2"}, {"-6/4", "-3/2"}, {"6/3", "2"}, {"5/1", "5"}, {"06/04", "3/2"}, {"1/10", "1/10"}, {"10/100", "1/10"}, {"3/2", "3/2"},
		{"9223372036854775808", "9223372036854775808"}, {"-9223372036854775809/18446744073709551618", "-1/2"},
	} {
		if s, e := exact.Read(c.text); s != c.want || e != api.OK {
			t.Errorf("Read(%q): %q, %d; %q is wanted", c.text, s, e, c.want)
		}
	}
}

// P1.1: texts that tell none.
func TestReadRefuses(t *testing.T) {
	for _, c := range []struct {
		text string
		want api.Errno
	}{
		{"", api.ErrForm}, {"-", api.ErrForm}, {".", api.ErrForm}, {"/", api.ErrForm}, {"-.", api.ErrForm}, {"-/2", api.ErrForm},
		{".5", api.ErrForm}, {"5.", api.ErrForm}, {"-.5", api.ErrForm}, {"/5", api.ErrForm}, {"5/", api.ErrForm},
		{"+5", api.ErrForm}, {"--5", api.ErrForm}, {"5-", api.ErrForm}, {"1-2", api.ErrForm}, {"1/-2", api.ErrForm}, {"1/+2", api.ErrForm}, {"1.-2", api.ErrForm},
		{"1.2.3", api.ErrForm}, {"1/2/3", api.ErrForm}, {"1.2/3", api.ErrForm}, {"1/2.3", api.ErrForm}, {"1..2", api.ErrForm}, {"1//2", api.ErrForm},
		{" 1", api.ErrForm}, {"1 ", api.ErrForm}, {"1 / 2", api.ErrForm}, {"1\n", api.ErrForm}, {"1\x00", api.ErrForm},
		{"1e5", api.ErrForm}, {"0x1F", api.ErrForm}, {"1_000", api.ErrForm}, {"1,5", api.ErrForm}, {"Inf", api.ErrForm}, {"a", api.ErrForm}, {":", api.ErrForm},
		{"\u0661", api.ErrForm}, {"\uff11", api.ErrForm}, {"\u22121", api.ErrForm}, {"1\u00bd", api.ErrForm}, {"\xff", api.ErrForm}, {"1\x80", api.ErrForm},
		{"1/0", api.ErrZero}, {"-1/0", api.ErrZero}, {"0/0", api.ErrZero}, {"1/000", api.ErrZero},
		{"x/0", api.ErrForm}, {"1/0x", api.ErrForm}, {"/0", api.ErrForm}, {"1/0/0", api.ErrForm},
	} {
		if s, e := exact.Read(c.text); s != "" || e != c.want {
			t.Errorf("Read(%q): %q, %d; error %d is wanted", c.text, s, e, c.want)
		}
	}
}

// P1.1: MaxDigits bytes are read, one more is not, whatever they are.
func TestReadSize(t *testing.T) {
	nines := strings.Repeat("9", api.MaxDigits)
	tiny := "0." + strings.Repeat("0", api.MaxDigits-3) + "1"
	for _, c := range []struct {
		text, want string
		e          api.Errno
	}{
		{nines, nines, api.OK},
		{"-" + nines[1:], "-" + nines[1:], api.OK},
		{strings.Repeat("0", api.MaxDigits), "0", api.OK},
		{tiny, "1/1" + strings.Repeat("0", api.MaxDigits-2), api.OK}, // the form is longer than the text
		{nines[:api.MaxDigits-2] + "/3", strings.Repeat("3", api.MaxDigits-2), api.OK},
		{"1/" + strings.Repeat("0", api.MaxDigits-2), "", api.ErrZero},
		{strings.Repeat("x", api.MaxDigits), "", api.ErrForm},
		{strings.Repeat("é", api.MaxDigits/2), "", api.ErrForm},
		{nines + "9", "", api.ErrSize},
		{"-" + nines, "", api.ErrSize},
		{strings.Repeat("0", api.MaxDigits+1), "", api.ErrSize},
		{strings.Repeat("x", api.MaxDigits+1), "", api.ErrSize},
		{strings.Repeat("é", api.MaxDigits/2+1), "", api.ErrSize},
		{"1/" + strings.Repeat("0", api.MaxDigits-1), "", api.ErrSize},
		{strings.Repeat("7", 100000), "", api.ErrSize},
	} {
		if s, e := exact.Read(c.text); s != c.want || e != c.e {
			t.Errorf("Read(%q): %q, %d; %q, %d is wanted", c.text, s, e, c.want, c.e)
		}
	}
}

// P1.1: all short texts of the letters that matter.
func TestReadAllShortTexts(t *testing.T) {
	allTexts("-./0126", 5, func(s string) {
		want, e := told(s)
		if got, f := exact.Read(s); got != want || f != e {
			t.Errorf("Read(%q): %q, %d; %q, %d is wanted", s, got, f, want, e)
		}
	})
}

// P1.1: each single byte, alone and beside digits.
func TestReadEachByte(t *testing.T) {
	for b := range 256 {
		for _, s := range []string{string([]byte{byte(b)}), "1" + string([]byte{byte(b)}) + "2", "1/" + string([]byte{byte(b)}), string([]byte{byte(b)}) + "5"} {
			want, e := told(s)
			if got, f := exact.Read(s); got != want || f != e {
				t.Errorf("Read(%q): %q, %d; %q, %d is wanted", s, got, f, want, e)
			}
		}
	}
}

// P1.1: what is in form stays as it is.
func TestReadTwice(t *testing.T) {
	d := draw(1)
	for range 500 {
		s := d.number(28)
		if got, e := exact.Read(s); got != s || e != api.OK {
			t.Errorf("Read(%q): %q, %d", s, got, e)
		}
	}
}
