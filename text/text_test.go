package text_test

import (
	"fmt"
	"math"
	"testing"

	"hustings/text"
)

func TestLines(t *testing.T) {
	for s, want := range map[string]string{"": "", "a": "a false ", "\n": " true ", "a\n": "a true ", "a\n\nb \r": "a true  true b \r false "} {
		got := ""
		for line, ended := range text.Lines(s) {
			got += fmt.Sprint(line, " ", ended, " ")
		}
		if got != want {
			t.Errorf("%q: %q", s, got)
		}
	}
	for line := range text.Lines("a\nb\n") {
		if line == "b" {
			t.Error("not stopped")
		}
		break
	}
}

func TestNumber(t *testing.T) {
	for s, want := range map[string]uint64{"0": 0, "7": 7, "10": 10, "18446744073709551615": math.MaxUint64} {
		if n, is := text.Number(s, math.MaxUint64); n != want || !is {
			t.Error(s, n, is)
		}
	}
	for _, s := range []string{"", "00", "01", "+1", "-1", "-0", "0x1", "1_0", " 1", "1 ", "1.", "a", "18446744073709551616", "99999999999999999999999", "٣"} {
		if n, is := text.Number(s, math.MaxUint64); n != 0 || is {
			t.Error(s, n, is)
		}
	}
	if n, is := text.Number("15", 15); n != 15 || !is {
		t.Error(n, is)
	}
	if n, is := text.Number("16", 15); n != 0 || is {
		t.Error(n, is)
	}
}
