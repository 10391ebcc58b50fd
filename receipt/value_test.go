package receipt_test

import (
	"fmt"
	"slices"
	"strings"
	"testing"

	"indenture/api"
	"indenture/member"
	"indenture/receipt"
	"indenture/trie"
)

// mapOf tells a map of keys, and of what they have.
func mapOf(pairs ...Pair) *trie.Trie {
	t := trie.New()
	for _, p := range pairs {
		t = t.Put(keyOf(p.Key), valueOf(p.Value))
	}
	return t
}

func manyPairs(n int) []Pair {
	l := []Pair{}
	for i := range n {
		l = append(l, put(fmt.Sprint("k", i), fmt.Sprint("v", i*7%5)))
	}
	return l
}

// tells holds Value against what is wanted.
func tells(t *testing.T, what string, d Digest, key string, p member.Proof, value Hash, has, ok bool) {
	t.Helper()
	was := slices.Clone(p.Steps)
	v, h, o := receipt.Value(d, key, p)
	if v != value || h != has || o != ok {
		t.Errorf("%s, key %s: Value is %x %v %v, want %x %v %v", what, brief(key), v, h, o, value, has, ok)
	}
	if !slices.Equal(p.Steps, was) {
		t.Errorf("%s: Value changed what came in", what)
	}
	if v, h, o := member.Check(d.Map, keyOf(key), p); v != value || h != has || o != ok {
		t.Errorf("%s, key %s: member's Check is %x %v %v, want %x %v %v", what, brief(key), v, h, o, value, has, ok)
	}
}

// P17.3

func TestValue(t *testing.T) {
	long := strings.Repeat("k", 1000)
	keys := []string{"", "absent", "k", "k00", "\x00", "\xff\xfe", long, long + "k", strings.Repeat("k", api.MaxKey)}
	for n := range 40 {
		pairs := manyPairs(n)
		m := mapOf(pairs...)
		d := Digest{Size: n, Log: Hash{1}, Map: m.Root()}
		what := fmt.Sprint("a map of ", n)
		for i, p := range pairs {
			own := member.Prove(m, keyOf(p.Key))
			tells(t, what, d, p.Key, own, valueOf(p.Value), true, true)
			tells(t, what+", another Size and Log", Digest{Map: d.Map}, p.Key, own, valueOf(p.Value), true, true)
			tells(t, what+", the Map as Log", Digest{Size: n, Log: d.Map}, p.Key, own, Hash{}, false, false)
			other := d
			other.Map[i%32] ^= 1
			tells(t, what+", another Map", other, p.Key, own, Hash{}, false, false)
			wrong := own
			wrong.Value[i%32] ^= 1
			tells(t, what+", another value", d, p.Key, wrong, Hash{}, false, false)
			tells(t, what+", nothing", d, p.Key, member.Proof{}, Hash{}, false, false)
			if len(own.Steps) > 0 {
				wrong = own
				wrong.Steps = slices.Clone(own.Steps)
				wrong.Steps[0].Side[9] ^= 1
				tells(t, what+", another side", d, p.Key, wrong, Hash{}, false, false)
				wrong.Steps = own.Steps[1:]
				tells(t, what+", a step less", d, p.Key, wrong, Hash{}, false, false)
			}
			// A key's own hash is not its text, and its way is not that of the text's hash's hash.
			k := keyOf(p.Key)
			if _, has, _ := receipt.Value(d, string(k[:]), own); has {
				t.Errorf("%s: the hash of %s has a value", what, p.Key)
			}
		}
		for _, key := range keys {
			tells(t, what+", a key that is not there", d, key, member.Prove(m, keyOf(key)), Hash{}, false, true)
		}
	}
}

// A proof of one key shows for another that it is not there, or nothing at all: never a value.
func TestValueOfAnotherKey(t *testing.T) {
	pairs := manyPairs(25)
	m := mapOf(pairs...)
	d := Digest{Map: m.Root()}
	has := map[string]Hash{}
	var keys []string
	for _, p := range pairs {
		has[p.Key] = valueOf(p.Value)
		keys = append(keys, p.Key)
	}
	keys = append(keys, "", "absent", "k25", "k26")
	refused, gone := 0, 0
	for _, x := range keys {
		p := member.Prove(m, keyOf(x))
		for _, y := range keys {
			v, h, ok := receipt.Value(d, y, p)
			want, there := has[y]
			switch {
			case x == y && (v != want || h != there || !ok):
				t.Errorf("key %q: %x %v %v, want %x %v", x, v, h, ok, want, there)
			case ok && (v != want || h != there):
				t.Errorf("a proof of %q shows of %q: %x %v, want %x %v", x, y, v, h, want, there)
			case !ok && (h || v != Hash{}):
				t.Errorf("a proof of %q is refused for %q, and tells %x %v", x, y, v, h)
			case !ok:
				refused++
			case !h:
				gone++
			}
		}
	}
	if refused < 100 || gone < 4 {
		t.Errorf("%d are refused, %d show that a key is not there: these are too few", refused, gone)
	}
}

func TestValueOfOneKey(t *testing.T) {
	none := Digest{Map: trie.New().Root()}
	tells(t, "an empty map", none, "a", member.Proof{}, Hash{}, false, true)
	tells(t, "an empty map", none, "", member.Proof{}, Hash{}, false, true)
	tells(t, "an empty map", none, strings.Repeat("a", 1<<16), member.Proof{}, Hash{}, false, true)
	tells(t, "no map", Digest{}, "a", member.Proof{}, Hash{}, false, false)

	for _, key := range []string{"a", "", strings.Repeat("a", 300)} {
		d := Digest{Map: mapOf(put(key, "")).Root()}
		own := member.Proof{Leaf: true, Key: keyOf(key), Value: valueOf("")}
		tells(t, "one key", d, key, own, valueOf(""), true, true)
		tells(t, "one key", d, "b", own, Hash{}, false, true)
		tells(t, "one key, no leaf", d, key, member.Proof{Key: own.Key, Value: own.Value}, Hash{}, false, false)
		tells(t, "one key, a step", d, key, member.Proof{Steps: []member.Step{{}}, Leaf: true, Key: own.Key, Value: own.Value}, Hash{}, false, false)
		tells(t, "one key, a bit that may not be", d, key, member.Proof{Steps: []member.Step{{Bit: 256}}, Leaf: true, Key: own.Key, Value: own.Value}, Hash{}, false, false)
		tells(t, "one key, a bit below 0", d, key, member.Proof{Steps: []member.Step{{Bit: -1}}, Leaf: true, Key: own.Key, Value: own.Value}, Hash{}, false, false)
		tells(t, "one key, the key of another item", d, key, member.Proof{Leaf: true, Key: keyOf("b"), Value: own.Value}, Hash{}, false, false)
	}
}
