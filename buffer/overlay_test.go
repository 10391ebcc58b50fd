package buffer_test

import (
	"fmt"
	"math"
	"slices"
	"testing"

	"indenture/api"
	"indenture/buffer"
)

func overlays(t *testing.T, l, w []Pair, want ...Pair) {
	t.Helper()
	wasL, wasW := slices.Clone(l), slices.Clone(w)
	isList(t, fmt.Sprintf("Overlay(%s, %s)", shown(l), shown(w)), buffer.Overlay(l, w), want)
	isList(t, "what came in as l", l, wasL)
	isList(t, "what came in as w", w, wasW)
}

func over(t *testing.T, b *buffer.Buffer, l []Pair, from, to string, most int, want ...Pair) {
	t.Helper()
	was, writes := slices.Clone(l), b.Writes()
	isList(t, fmt.Sprintf("%s Over(%s, %q, %q, %d)", shown(writes), shown(l), from, to, most), b.Over(l, from, to, most), want)
	isList(t, "what came in", l, was)
	has(t, "behind Over", b, writes...)
}

// P13.2

func TestOverlay(t *testing.T) {
	a, b, c, d := put("a", "1"), put("b", "2"), put("c", "3"), put("d", "")
	for _, x := range []struct{ l, w, want []Pair }{
		{nil, nil, nil},
		{[]Pair{}, []Pair{}, nil},
		{nil, []Pair{}, nil},
		{[]Pair{a}, nil, []Pair{a}},
		{[]Pair{a, b, d}, nil, []Pair{a, b, d}},
		{nil, []Pair{a}, []Pair{a}},
		{[]Pair{}, []Pair{a, b, d}, []Pair{a, b, d}},
		{[]Pair{a, b}, []Pair{c, d}, []Pair{a, b, c, d}},
		{[]Pair{c, d}, []Pair{a, b}, []Pair{a, b, c, d}},
		{[]Pair{a, c}, []Pair{b, d}, []Pair{a, b, c, d}},
		{[]Pair{a, d}, []Pair{b, c}, []Pair{a, b, c, d}},
		{[]Pair{b, c}, []Pair{a, d}, []Pair{a, b, c, d}},
		{[]Pair{a, b}, []Pair{put("a", "w"), put("b", "w")}, []Pair{put("a", "w"), put("b", "w")}},
		{[]Pair{a, b, c}, []Pair{put("b", "w")}, []Pair{a, put("b", "w"), c}},
		{[]Pair{a, b, c}, []Pair{put("b", "")}, []Pair{a, put("b", ""), c}},
		{[]Pair{b}, []Pair{a, put("b", "w"), c}, []Pair{a, put("b", "w"), c}},
		{[]Pair{a, b, c}, []Pair{drop("b")}, []Pair{a, c}},
		{[]Pair{a, b, c}, []Pair{drop("a")}, []Pair{b, c}},
		{[]Pair{a, b, c}, []Pair{drop("c")}, []Pair{a, b}},
		{[]Pair{a, b, c}, []Pair{drop("a"), drop("b"), drop("c")}, nil},
		{[]Pair{a, c}, []Pair{drop("b")}, []Pair{a, c}},
		{[]Pair{b}, []Pair{drop("a"), drop("c")}, []Pair{b}},
		{nil, []Pair{drop("a"), b, drop("c")}, []Pair{b}},
		{nil, []Pair{drop("a")}, nil},
		{[]Pair{drop("a"), b, drop("c")}, nil, []Pair{b}},
		{[]Pair{drop("a")}, nil, nil},
		{[]Pair{drop("a")}, []Pair{a}, []Pair{a}},
		{[]Pair{drop("a")}, []Pair{drop("a")}, nil},
		{[]Pair{drop("a"), drop("c")}, []Pair{b, c}, []Pair{b, c}},
	} {
		overlays(t, x.l, x.w, x.want...)
	}
}

// A pure function looks at no lengths: it tells keys and values as they are.
func TestOverlayOfAnyTexts(t *testing.T) {
	none, long := put("", longValue+longValue), put(beyond+beyond, "")
	overlays(t, []Pair{none}, []Pair{long}, none, long)
	overlays(t, []Pair{long}, []Pair{none}, none, long)
	overlays(t, []Pair{none, long}, []Pair{drop("")}, long)
	overlays(t, []Pair{none, long}, []Pair{put("", "w"), drop(beyond + beyond)}, put("", "w"))
	dead := Pair{Key: "a", Value: "which is not told", Dead: true}
	overlays(t, []Pair{dead}, nil)
	overlays(t, nil, []Pair{dead})
	overlays(t, []Pair{put("a", "1"), put("b", "2")}, []Pair{dead}, put("b", "2"))
	overlays(t, []Pair{put("a", "1"), put("a\x00", "2"), put("aa", "3")}, []Pair{put("a", "w"), drop("a\x00"), put("a\x01", "w")}, put("a", "w"), put("a\x01", "w"), put("aa", "3"))
}

// More pairs than a buffer has: those of all that there is.
func TestOverlayOfMany(t *testing.T) {
	var l, w, want []Pair
	for i := range 300000 {
		key := fmt.Sprintf("%06d", i)
		of := put(key, "l")
		if i%3 > 0 {
			l = append(l, of)
		}
		switch i % 5 {
		case 0, 1:
			of = put(key, "w")
			w = append(w, of)
		case 2:
			of = drop(key)
			w = append(w, of)
		}
		if !of.Dead && (i%3 > 0 || i%5 < 2) {
			want = append(want, of)
		}
	}
	if got := buffer.Overlay(l, w); !slices.Equal(got, want) {
		t.Errorf("%d pairs, want %d", len(got), len(want))
	}
}

// Of lists whose keys do not rise the chapter tells nothing, but that it ends, and that they are as before.
func TestOverlayOfKeysThatDoNotRise(t *testing.T) {
	lists := [][]Pair{
		nil,
		{put("b", "1"), put("a", "2")},
		{put("a", "1"), put("a", "2"), put("a", "3")},
		{put("c", "1"), drop("b"), put("c", "2"), put("", "3"), drop("c")},
		{drop("a"), drop("a")},
	}
	for _, l := range lists {
		for _, w := range lists {
			wasL, wasW := slices.Clone(l), slices.Clone(w)
			got := buffer.Overlay(l, w)
			isList(t, "what came in as l", l, wasL)
			isList(t, "what came in as w", w, wasW)
			for _, p := range got {
				if p.Dead || !slices.Contains(l, p) && !slices.Contains(w, p) {
					t.Errorf("Overlay(%s, %s): %s", shown(l), shown(w), shown([]Pair{p}))
				}
			}
			b := of(t, put("a", "x"), drop("c"))
			for _, most := range []int{-1, 0, 1, 3, math.MaxInt} {
				if got := b.Over(l, "", beyond, most); len(got) > max(0, most) {
					t.Errorf("Over(%s) at most %d: %s", shown(l), most, shown(got))
				}
			}
		}
	}
}

func TestExample(t *testing.T) {
	b := of(t, put("b", "2"), drop("a"))
	over(t, b, []Pair{put("a", "1"), put("c", "3")}, "a", "d", 10, put("b", "2"), put("c", "3"))
	over(t, b, []Pair{put("a", "1"), put("c", "3")}, "", beyond, math.MaxInt, put("b", "2"), put("c", "3"))
}

// What was written at from counts, and at to no more; of l all counts, where ever it lies.
func TestOverOfRanges(t *testing.T) {
	b := of(t, put("b", "w"), drop("d"), put("f", "w"), put("h", "w"))
	l := []Pair{put("a", "l"), put("b", "l"), put("d", "l"), put("f", "l"), put("z", "l")}
	al, bl, dl, fl, zl := l[0], l[1], l[2], l[3], l[4]
	bw, fw, hw := put("b", "w"), put("f", "w"), put("h", "w")
	for _, x := range []struct {
		from, to string
		want     []Pair
	}{
		{"", beyond, []Pair{al, bw, fw, hw, zl}},
		{"b", "h\x00", []Pair{al, bw, fw, hw, zl}},
		{"b", "h", []Pair{al, bw, fw, zl}},
		{"b\x00", "h", []Pair{al, bl, fw, zl}},
		{"b", "f", []Pair{al, bw, fl, zl}},
		{"b", "f\x00", []Pair{al, bw, fw, zl}},
		{"b", "d", []Pair{al, bw, dl, fl, zl}},
		{"d", "f", []Pair{al, bl, fl, zl}},
		{"d", "d\x00", []Pair{al, bl, fl, zl}},
		{"c", "g", []Pair{al, bl, fw, zl}},
		{"", "b", l},
		{"", "b\x00", []Pair{al, bw, dl, fl, zl}},
		{"h", beyond, []Pair{al, bl, dl, fl, hw, zl}},
		{"i", beyond, l},
		{"", "", l},
		{"b", "", l},
		{"b", "b", l},
		{"h", "b", l},
		{"d", "b", l},
		{beyond, "", l},
		{beyond, beyond, l},
	} {
		over(t, b, l, x.from, x.to, math.MaxInt, x.want...)
		for most := range len(x.want) + 2 {
			over(t, b, l, x.from, x.to, most, x.want[:min(most, len(x.want))]...)
		}
	}
}

func TestOverOfMost(t *testing.T) {
	b := of(t, put("b", "w"), drop("c"), put("d", "w"))
	l := []Pair{put("a", "l"), put("c", "l"), drop("cc"), put("e", "l")}
	want := []Pair{l[0], put("b", "w"), put("d", "w"), l[3]}
	for _, most := range []int{math.MinInt, math.MinInt + 1, -1 << 32, -2, -1, 0} {
		over(t, b, l, "", beyond, most)
		over(t, b, nil, "", beyond, most)
	}
	for most := range 5 {
		over(t, b, l, "", beyond, most, want[:most]...)
	}
	for _, most := range []int{5, 6, api.MaxScan, 1 << 32, 1<<32 + 1, math.MaxInt - 1, math.MaxInt} {
		over(t, b, l, "", beyond, most, want...)
	}
}

func TestOverOfNothing(t *testing.T) {
	b := of(t, put("b", "w"), drop("c"), put("d", "w"))
	over(t, b, nil, "", beyond, 9, put("b", "w"), put("d", "w"))
	over(t, b, []Pair{}, "c", "d\x00", 9, put("d", "w"))
	over(t, b, nil, "", beyond, 1, put("b", "w"))
	empty := buffer.New()
	over(t, empty, nil, "", beyond, 9)
	over(t, empty, []Pair{put("a", "l"), drop("b")}, "", beyond, 9, put("a", "l"))
}

// Of a full buffer and as many pairs as a scan has.
func TestOverOfMany(t *testing.T) {
	b, writes := full(t)
	var l []Pair
	for i := range api.MaxScan {
		l = append(l, put(fmt.Sprintf("key %03d", i), "l"))
	}
	want := append(alive(writes), l[api.MaxOps:]...)
	over(t, b, l, "", beyond, api.MaxScan, want...)
	over(t, b, l, "key", "l", api.MaxScan, want...)
	over(t, b, l, "", beyond, 40, want[:40]...)
	over(t, b, l, "z", beyond, api.MaxScan, l...)
}
