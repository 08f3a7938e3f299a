package alert

import (
	"fmt"
	"math"
	"math/rand"
	"slices"
	"strings"
	"testing"
	"time"

	"larum/api"
	"larum/jval"
	"larum/label"
)

// said by chance: a part of an object as text, and what it stands for.
type part struct {
	text string
	ok   bool
	l    []string // a set's names and values
	sec  int64
}

// pick: one of some, by chance.
func pick[T any](r *rand.Rand, l ...T) T { return l[r.Intn(len(l))] }

// setByChance: an object of a set's pairs, or what is none.
func setByChance(r *rand.Rand) part {
	if r.Intn(8) == 0 {
		return part{text: pick(r, `null`, `[]`, `""`, `1`, `true`, `{"":"1"}`, `{"a":""}`, `{"a":1}`, `{"a":"1","9":"x"}`, `{"a":{}}`, `["a","1"]`, `{"é":"1"}`)}
	}
	p := part{ok: true}
	var b strings.Builder
	for _, i := range r.Perm(4)[:r.Intn(4)] {
		name, val := string("aZ_b"[i]), pick(r, "1", "2", "é", "x y", "/")
		fmt.Fprintf(&b, ",%q:%q", name, val)
		p.l = append(p.l, name, val)
	}
	p.text = "{" + strings.TrimPrefix(b.String(), ",") + "}"
	return p
}

// timeByChance: a time near to few ones, or what is none. Its text is that of
// Go's library.
func timeByChance(r *rand.Rand) part {
	if r.Intn(8) == 0 {
		return part{text: pick(r, `null`, `""`, `0`, `{}`, `"1970-01-01"`, `"1970-01-01T00:00:00"`, `"6325-04-08T15:04:33Z"`, `"1969-12-31T23:59:59Z"`, `"1970-02-29T00:00:00Z"`)}
	}
	sec := pick[int64](r, 0, 100, 1000000, api.MaxTime-9) + r.Int63n(10)
	return part{text: `"` + time.Unix(sec, 0).UTC().Format("2006-01-02T15:04:05Z") + `"`, ok: true, sec: sec}
}

// bounded: the nearest time.
func bounded(n int64) int64 {
	if n < 0 {
		return 0
	}
	if n > 1<<37 {
		return 1 << 37
	}
	return n
}

// asked: what Read must answer of parts by their keys, by the chapter's words.
func asked(t *testing.T, parts map[string]part, now, stay int64) (Alert, api.Errno) {
	t.Helper()
	for key, p := range parts {
		if !p.ok || key == "x" {
			return Alert{}, api.ErrForm
		}
	}
	now, stay = bounded(now), bounded(stay)
	a := Alert{set(t, parts["labels"].l...), set(t, parts["annotations"].l...), now, 0}
	if p, ok := parts["startsAt"]; ok {
		a.Starts = p.sec
	}
	a.Ends = a.Starts + stay
	if now > a.Starts {
		a.Ends = now + stay
	}
	if p, ok := parts["endsAt"]; ok {
		a.Ends = p.sec
	}
	if len(parts["labels"].l) == 0 || a.Starts >= a.Ends || a.Ends > 1<<37 {
		return Alert{}, api.ErrArg
	}
	return a, api.OK
}

// P22.2: objects by chance, in any order of their keys, against the chapter's
// words; Decode likewise, of those that say both times.
func TestReadByChance(t *testing.T) {
	r := rand.New(rand.NewSource(22))
	seen := map[api.Errno]int{}
	for range 60000 {
		parts := map[string]part{}
		var keys []string
		for _, key := range []string{"labels", "annotations", "startsAt", "endsAt", "x"} {
			switch {
			case key == "x" && r.Intn(15) > 0 || r.Intn(4) == 0:
				continue
			case strings.HasSuffix(key, "At"):
				parts[key] = timeByChance(r)
			default:
				parts[key] = setByChance(r)
			}
			keys = append(keys, key)
		}
		r.Shuffle(len(keys), func(i, j int) { keys[i], keys[j] = keys[j], keys[i] })
		var l []string
		for _, key := range keys {
			l = append(l, `"`+key+`":`+parts[key].text)
		}
		text := "{" + strings.Join(l, ",") + "}"
		now := pick[int64](r, 0, 100, 1000000, api.MaxTime-9, -20, math.MaxInt64-9) + r.Int63n(10)
		stay := pick[int64](r, -3, 0, 1, 9, 1000, api.MaxTime, math.MinInt64, math.MaxInt64)

		want, e := asked(t, parts, now, stay)
		seen[e]++
		v, _, err := jval.Parse(text, 9)
		if got, is := Read(v, now, stay); !same(got, want) || is != e || err != api.OK {
			t.Fatalf("Read(%s, %d, %d) is %+v, %d, not %+v, %d", text, now, stay, got, is, want, e)
		}
		if !slices.Contains(keys, "startsAt") || !slices.Contains(keys, "endsAt") {
			want, e = Alert{}, api.ErrForm
		}
		if got, is := Decode(text); !same(got, want) || is != e {
			t.Fatalf("Decode(%s) is %+v, %d, not %+v, %d", text, got, is, want, e)
		}
	}
	if seen[api.OK] < 5000 || seen[api.ErrArg] < 5000 || seen[api.ErrForm] < 5000 || len(seen) != 3 {
		t.Errorf("too few of one kind: %v", seen)
	}
}

// P22.1: alerts by chance, at all times near to theirs, against the chapter's
// words.
func TestTimesByChance(t *testing.T) {
	r := rand.New(rand.NewSource(221))
	labels := set(t, "a", "1")
	for range 20000 {
		at := pick[int64](r, -5, 20, api.MaxTime-5)
		a := Alert{Labels: labels, Starts: at + r.Int63n(10), Ends: at + r.Int63n(10)}
		b := Alert{Labels: labels, Starts: at + r.Int63n(10), Ends: at + r.Int63n(10)}
		times := a.Starts >= 0 && a.Starts <= 1<<37 && a.Ends >= 0 && a.Ends <= 1<<37
		if right := Right(a) == api.OK; right != (times && a.Ends > a.Starts) {
			t.Fatalf("Right(%+v) is %v", a, right)
		}
		want := b
		if !(b.Starts > a.Ends) && a.Starts < b.Starts {
			want.Starts = a.Starts
		}
		if got := Merge(a, b); !same(got, want) {
			t.Fatalf("Merge(%+v, %+v) is %+v", a, b, got)
		}
		for now := at - 2; now < at+12; now++ {
			active := now >= a.Starts && now < a.Ends
			want := a
			if active && now == a.Starts {
				want.Ends = now + 1
			} else if active {
				want.Ends = now
			}
			if got := Resolve(a, now); Active(a, now) != active || !same(got, want) {
				t.Fatalf("%+v at %d: %v, %+v", a, now, Active(a, now), got)
			}
		}
	}
}

// P22.3: Decode of Encode of a right alert is the alert.
func TestDecodeOfEncode(t *testing.T) {
	r := rand.New(rand.NewSource(223))
	runes := []string{"a", "\"", "\\", "/", "\n", "\x00", "\x1f", "\x7f", "é", "\u2028", "�", "😀", "{", "}", ",", " ", "\U0010FFFF"}
	for range 5000 {
		var sets [2][]string
		for i := range sets {
			for j := range r.Intn(5) + 1 - i {
				val := pick(r, runes...)
				for range r.Intn(6) {
					val += pick(r, runes...)
				}
				sets[i] = append(sets[i], fmt.Sprintf("%s%d", pick(r, "a", "Z", "_", "a_b9"), j), val)
			}
		}
		ends := 1 + pick(r, r.Int63n(10), r.Int63n(api.MaxTime), api.MaxTime-1-r.Int63n(3))
		a := Alert{set(t, sets[0]...), set(t, sets[1]...), r.Int63n(ends), ends}
		if Right(a) != api.OK {
			t.Fatalf("%+v is not right", a)
		}
		s := Encode(a)
		expectDecode(t, s, a)
		// What is read is written again in one way.
		if got, _ := Decode(s); Encode(got) != s || Key(got) != Key(a) {
			t.Errorf("%q became %q", s, Encode(got))
		}
		v, _, _ := jval.Parse(s, 2)
		if got, e := Read(v, -7, -7); e != api.OK || !same(got, a) {
			t.Errorf("Read(%s) is %+v, %d", s, got, e)
		}
		if t.Failed() {
			t.FailNow()
		}
	}
}

// P1, P22.3: no call panics, whatever it is given; what is read is right, and
// is read again.
func FuzzAlert(f *testing.F) {
	f.Add(`{"labels":{"a":"1"}}`, int64(5), int64(9), "a", "1")
	f.Add(`{"labels":{"a":"1"},"startsAt":"1970-01-01T00:01:00Z","endsAt":"1970-01-01T00:02:00Z"}`, int64(math.MinInt64), int64(math.MaxInt64), "", "\xFF")
	f.Add(`{"endsAt":[[[]]]}`, int64(-1), int64(api.MaxTime), "é", "")
	f.Add("", int64(math.MaxInt64), int64(math.MinInt64), "_", "\n")
	f.Fuzz(func(t *testing.T, s string, now, stay int64, name, val string) {
		v, _, _ := jval.Parse(s, api.MaxDepth)
		for _, v := range []jval.Value{v, texts("labels", s), object("labels", texts(name, val)), object(name, v), {Kind: jval.Object, Keys: []string{name}}} {
			a, e := Read(v, now, stay)
			if e != api.OK && e != api.ErrForm && e != api.ErrArg {
				t.Errorf("Read is %d", e)
			}
			if e == api.OK {
				expectDecode(t, Encode(a), a)
			}
			if e != Right(a) && e != api.ErrForm {
				t.Errorf("Read is %d, Right of its answer %d", e, Right(a))
			}
			SetOf(v)
		}
		if a, e := Decode(s); e == api.OK {
			expectDecode(t, Encode(a), a)
		}
		var labels label.Set
		if label.Name(name) && val != "" {
			labels, _ = label.Of(label.Pair{Name: name, Value: val})
		}
		a := Alert{labels, labels, now, stay}
		Merge(a, Alert{Starts: stay, Ends: now})
		Merge(Alert{Starts: stay, Ends: now}, a)
		if x := Resolve(a, stay); x.Ends > a.Ends {
			t.Errorf("Resolve of %+v is %+v", a, x)
		}
		if got, e := Decode(Encode(a)); Right(a) == api.OK && (e != api.OK || !same(got, a)) {
			t.Errorf("%+v became %+v, %d", a, got, e)
		}
	})
}
