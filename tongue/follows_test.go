package tongue_test

import (
	"testing"

	"retort/api"
	"retort/tongue"
)

// back holds Check and Print of a unit against what they must tell, and reads the text again.
func back(t testing.TB, u api.Unit) (string, api.Errno) {
	t.Helper()
	if e, want := tongue.Check(u), checkOf(u); e != want {
		t.Errorf("P1701: Check of %s: %v, want %v", brief(show(u)), e, want)
	}
	text, e := tongue.Print(u)
	if want, we := textOf(u); text != want || e != we {
		t.Errorf("P1704: Print of %s: %s, %v\nwant %s, %v", brief(show(u)), brief(text), e, brief(want), we)
	}
	if e != api.OK {
		return text, e
	}
	v, e, at := tongue.Parse(text)
	if e != api.OK || at != 0 || show(v) != show(u) {
		t.Errorf("P1707: Parse of Print's text %s: %s, %v at %d\nwant %s", brief(text), brief(show(v)), e, at, brief(show(u)))
	}
	return text, api.OK
}

func TestDrawnUnits(t *testing.T) {
	t.Parallel()
	r := seeded(1)
	texts := map[string]string{}
	for range rounds(4000) {
		u := drawn(r)
		text, e := back(t, u)
		is(t, "P1701: a drawn unit", e, api.OK)
		if was, is := texts[text]; is && was != show(u) {
			t.Fatalf("P1707: two units of one text: %s", brief(text))
		}
		texts[text] = show(u)
	}
}

// A text written otherwise says the same, and Print leaves its own text of it as it is.
func TestWrittenOtherwise(t *testing.T) {
	t.Parallel()
	r := seeded(2)
	for range rounds(4000) {
		u := drawn(r)
		text := otherwise(r, u)
		v, e, at := tongue.Parse(text)
		if e != api.OK || at != 0 || show(v) != show(u) {
			t.Fatalf("P1703: Parse of %q: %s, %v at %d\nwant %s", text, show(v), e, at, show(u))
		}
		is(t, "P1707: what Parse tells is right", tongue.Check(v), api.OK)
		back(t, v)
	}
}

// Texts in which something stands that may not are told with the first fault.
func TestBentTexts(t *testing.T) {
	t.Parallel()
	r := seeded(3)
	met := map[api.Errno]int{}
	for range rounds(4000) {
		u := drawn(r)
		text, _ := textOf(u)
		if r.IntN(2) == 0 {
			text = otherwise(r, u)
		}
		a := parse(t, bent(r, text))
		met[a.e]++
		if a.e == api.OK {
			back(t, a.u)
		}
	}
	t.Log(met)
	for _, e := range []api.Errno{api.OK, api.ErrSyntax, api.ErrNumber, api.ErrTwice, api.ErrUnset, api.ErrArity} {
		if met[e] == 0 && !testing.Short() {
			t.Errorf("%v was never met", e)
		}
	}
}

// Units in which something is that may not be are told with the first fault.
func TestBentUnits(t *testing.T) {
	t.Parallel()
	r := seeded(4)
	met := map[api.Errno]int{}
	for range rounds(10000) {
		u := bentUnit(r, drawn(r))
		_, e := back(t, u)
		met[e]++
	}
	t.Log(met)
	for _, e := range []api.Errno{api.OK, api.ErrSyntax, api.ErrLong, api.ErrTwice, api.ErrUnset, api.ErrArity} {
		if met[e] == 0 {
			t.Errorf("%v was never met", e)
		}
	}
}
