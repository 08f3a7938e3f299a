package silence

import (
	"bytes"
	"encoding/json"
	"math"
	"math/rand"
	"slices"
	"strings"
	"testing"
	"time"

	"larum/api"
	"larum/jval"
	"larum/label"
)

// pick: one of some, by chance.
func pick[T any](r *rand.Rand, l ...T) T { return l[r.Intn(len(l))] }

// printed: a time's text, by Go's library.
func printed(sec int64) string { return time.Unix(sec, 0).UTC().Format("2006-01-02T15:04:05Z") }

// stands: how a silence from one time to another one stands, by the chapter's
// words.
func stands(starts, ends, now int64) string {
	if !(now < ends) {
		return "expired"
	}
	if now < starts {
		return "pending"
	}
	return "active"
}

// P23.1: silences by chance, at all times near to theirs, against the chapter's
// words.
func TestTimesByChance(t *testing.T) {
	r := rand.New(rand.NewSource(231))
	seen := map[api.Errno]int{}
	for range 4000 {
		at := pick[int64](r, -4, 0, 20, api.MaxTime-5)
		old := Silence{ID: r.Int63n(9) - 1, Match: "x", Starts: at + r.Int63n(10), Ends: at + r.Int63n(10), State: pick(r, Pending, Active, Expired, "")}
		with := another(at+r.Int63n(10), at+r.Int63n(10))
		if r.Intn(3) == 0 {
			with.Starts = old.Starts
		}
		times := with.Starts >= 0 && with.Starts <= 1<<37 && with.Ends >= 0 && with.Ends <= 1<<37
		right := times && !(with.Ends < with.Starts)
		if got := Right(with) == api.OK; got != right {
			t.Fatalf("Right(%+v) is %v", with, got)
		}
		for now := at - 2; now < at+12; now++ {
			state := stands(old.Starts, old.Ends, now)
			if got := At(old, now); got != in(old, state) {
				t.Fatalf("At(%+v, %d) is %+v", old, now, got)
			}
			want, e := in(with, stands(with.Starts, with.Ends, now)), api.OK
			want.ID = old.ID
			switch {
			case !right:
				e = api.ErrArg
			case state == "expired" || state == "active" && with.Starts != old.Starts:
				e = api.ErrState
			case with.Ends < now:
				e = api.ErrArg
			}
			if e != api.OK {
				want = Silence{}
			}
			seen[e]++
			if got, is := Update(old, with, now); got != want || is != e {
				t.Fatalf("Update(%+v, %+v, %d) is %+v, %d, not %+v, %d", old, with, now, got, is, want, e)
			}
			want, e = in(old, "expired"), api.OK
			switch want.Ends = now; state {
			case "expired":
				want, e = Silence{}, api.ErrState
			case "pending":
				want.Starts = now
			}
			if got, is := Expire(old, now); got != want || is != e {
				t.Fatalf("Expire(%+v, %d) is %+v, %d, not %+v, %d", old, now, got, is, want, e)
			}
		}
	}
	if seen[api.OK] < 5000 || seen[api.ErrArg] < 5000 || seen[api.ErrState] < 5000 || len(seen) != 3 {
		t.Errorf("too few of one kind: %v", seen)
	}
}

// part is something said by chance: as JSON's text, and what it stands for.
type part struct {
	json string
	text string
	sec  int64
	e    api.Errno
}

// quoted: a text in quotes, by Go's library.
func quoted(s string) string {
	var b bytes.Buffer
	w := json.NewEncoder(&b)
	w.SetEscapeHTML(false)
	w.Encode(s)
	return strings.TrimSuffix(b.String(), "\n")
}

// timeByChance: a time near to few ones, or what is none.
func timeByChance(r *rand.Rand) part {
	if r.Intn(9) == 0 {
		return part{json: pick(r, `null`, `""`, `0`, `{}`, `"1970-01-01"`, `"6325-04-08T15:04:33Z"`, `"1969-12-31T23:59:59Z"`, `"1970-02-29T00:00:00Z"`), e: api.ErrForm}
	}
	sec := pick[int64](r, 0, 100, 1000000, api.MaxTime-9) + r.Int63n(10)
	return part{json: quoted(printed(sec)), sec: sec}
}

// listByChance: a list's text, with blanks or without, and as it is written.
func listByChance(r *rand.Rand) part {
	switch r.Intn(12) {
	case 0:
		return part{json: pick(r, `null`, `1`, `[]`, `""`, `"a"`, `"{a}"`, `"{a=\"1\""`, `"{a=~\"(\"}"`), e: api.ErrForm}
	case 1:
		return part{json: quoted("{" + strings.Repeat(`a="1",`, 33) + "}"), e: api.ErrFull}
	case 2:
		return part{json: quoted(`{a=~"` + strings.Repeat("b", 401) + `"}`), e: api.ErrLong}
	case 3:
		return part{json: `"{}"`, e: api.ErrArg}
	}
	blank := func() string { return pick(r, "", "", "", " ", "\t", "  ") }
	var said, want []string
	for range r.Intn(3) + 1 {
		name, sign, val := pick(r, "a", "_Z9"), pick(r, "=", "!=", "=~", "!~"), pick(r, "1", "", "x.*", "é", "a|b")
		said = append(said, blank()+name+blank()+sign+blank()+quoted(val)+blank())
		want = append(want, name+sign+quoted(val))
	}
	return part{json: quoted(blank() + "{" + strings.Join(said, ",") + pick(r, "", "", ",") + "}" + blank()), text: "{" + strings.Join(want, ",") + "}"}
}

// textByChance: a text, or what is none.
func textByChance(r *rand.Rand) part {
	if r.Intn(12) == 0 {
		return part{json: pick(r, `null`, `1`, `true`, `[]`, `{}`, `["x"]`), e: api.ErrForm}
	}
	text := pick(r, "", "me", "é\n", `"\`, "{}")
	return part{json: quoted(text), text: text}
}

// asked: what Read must answer of parts by their keys, by the chapter's words.
func asked(parts map[string]part, now int64) (Silence, api.Errno) {
	_, matchers := parts["matchers"]
	_, ends := parts["endsAt"]
	if !matchers || !ends {
		return Silence{}, api.ErrForm
	}
	for key, p := range parts {
		if p.e == api.ErrForm || key == "x" {
			return Silence{}, api.ErrForm
		}
	}
	s := Silence{0, parts["matchers"].text, min(max(now, 0), 1<<37), parts["endsAt"].sec, parts["createdBy"].text, parts["comment"].text, ""}
	if p, ok := parts["startsAt"]; ok {
		s.Starts = p.sec
	}
	switch {
	case parts["matchers"].e != api.OK:
		return Silence{}, parts["matchers"].e
	case s.Starts > s.Ends:
		return Silence{}, api.ErrArg
	}
	s.State = stands(s.Starts, s.Ends, now)
	return s, api.OK
}

// P23.2: objects by chance, in any order of their keys, against the chapter's
// words.
func TestReadByChance(t *testing.T) {
	r := rand.New(rand.NewSource(232))
	seen := map[api.Errno]int{}
	for range 60000 {
		parts := map[string]part{}
		var keys []string
		for _, key := range []string{"matchers", "startsAt", "endsAt", "createdBy", "comment", "x"} {
			p := textByChance(r)
			switch key {
			case "startsAt", "endsAt":
				p = timeByChance(r)
			case "matchers":
				p = listByChance(r)
			}
			rare := map[string]int{"matchers": 12, "endsAt": 12}[key]
			if key == "x" && r.Intn(15) > 0 || key != "x" && r.Intn(max(rare, 3)) == 0 {
				continue
			}
			parts[key], keys = p, append(keys, key)
		}
		r.Shuffle(len(keys), func(i, j int) { keys[i], keys[j] = keys[j], keys[i] })
		var l []string
		for _, key := range keys {
			l = append(l, `"`+key+`":`+parts[key].json)
		}
		text := "{" + strings.Join(l, ",") + "}"
		now := pick[int64](r, 0, 100, 1000000, api.MaxTime-9, -20, math.MaxInt64-9) + r.Int63n(10)

		want, e := asked(parts, now)
		seen[e]++
		v, _, err := jval.Parse(text, 9)
		if got, is := Read(v, now); got != want || is != e || err != api.OK {
			t.Fatalf("Read(%s, %d) is %+v, %d, not %+v, %d", text, now, got, is, want, e)
		}
		if e == api.OK {
			expectDecode(t, Encode(want), want)
		}
	}
	for _, e := range []api.Errno{api.OK, api.ErrForm, api.ErrArg, api.ErrFull, api.ErrLong} {
		if seen[e] < 1500 {
			t.Errorf("too few of %d: %v", e, seen)
		}
	}
	if len(seen) != 5 {
		t.Errorf("others: %v", seen)
	}
}

// byChance: a right silence of one of the states.
func byChance(r *rand.Rand) Silence {
	runes := []string{"a", "\"", "\\", "/", "\n", "\x00", "\x1f", "\x7f", "é", "😀", "{", "}", ",", " ", "\U0010FFFF"}
	text := func() string {
		s := ""
		for range r.Intn(6) {
			s += pick(r, runes...)
		}
		return s
	}
	var l []string
	for range r.Intn(3) + 1 {
		l = append(l, pick(r, "a", "Z", "_b9")+pick(r, "=", "!=")+quoted(strings.Trim(text(), "\x00\x1f\x7f")))
	}
	ends := pick(r, r.Int63n(10), r.Int63n(api.MaxTime), api.MaxTime-r.Int63n(3))
	return Silence{pick(r, r.Int63n(9), r.Int63()), "{" + strings.Join(l, ",") + "}", r.Int63n(ends + 1), ends, text(), text(), pick(r, Pending, Active, Expired)}
}

// P23.2, P23.3: what Encode writes is what Go's library says, and Decode of it
// the silence; of the text with a byte that is another one it is another one,
// or none.
func TestEncodeByChance(t *testing.T) {
	r := rand.New(rand.NewSource(233))
	other := 0
	for range 1500 {
		s := byChance(r)
		if Right(s) != api.OK {
			t.Fatalf("%+v is not right", s)
		}
		got := Encode(s)
		var said map[string]any
		if err := json.Unmarshal([]byte(got), &said); err != nil || len(said) != 7 {
			t.Fatalf("%q: %v", got, err)
		}
		d := json.NewDecoder(strings.NewReader(got))
		d.UseNumber()
		d.Decode(&said)
		id, _ := said["id"].(json.Number).Int64()
		texts := []any{said["matchers"], said["startsAt"], said["endsAt"], said["createdBy"], said["comment"], said["state"]}
		if want := []any{s.Match, printed(s.Starts), printed(s.Ends), s.By, s.Note, s.State}; !slices.Equal(texts, want) || id != s.ID {
			t.Fatalf("%q says %v, %d, not %v, %d", got, texts, id, want, s.ID)
		}
		expectDecode(t, got, s)
		for range 30 {
			b := []byte(got)
			b[r.Intn(len(b))] = pick(r, byte(r.Intn(256)), '0', '1', 'a', '"', ' ', ',')
			x, e := Decode(string(b))
			if e == api.OK && (Right(x) != api.OK || Encode(x) != string(b)) || e != api.OK && (e != api.ErrForm || x != Silence{}) {
				t.Fatalf("Decode(%q) is %+v, %d", b, x, e)
			}
			if e == api.OK && string(b) != got {
				other++
			}
		}
	}
	if other < 1000 {
		t.Errorf("only %d are another one", other)
	}
}

// P1, P23.3: no call panics, whatever it is given; what is read is right, and
// stays so.
func FuzzSilence(f *testing.F) {
	f.Add(`{"matchers":"{a=\"1\"}","endsAt":"1970-01-01T00:01:30Z"}`, int64(5), int64(9), int64(7), `{a="1"}`, Active)
	f.Add(written(`""`, `"me"`, partEnds, `3`, partList, partStarts, partState), int64(math.MinInt64), int64(math.MaxInt64), int64(-1), `{ a =~ "x" }`, "")
	f.Add(`{"endsAt":[[[]]]}`, int64(-1), int64(api.MaxTime), int64(math.MaxInt64), "{}", "\xFF")
	f.Add("s/0000000012", int64(0), int64(0), int64(math.MinInt64), "", Pending)
	f.Fuzz(func(t *testing.T, text string, a, b, now int64, list, state string) {
		v, _, _ := jval.Parse(text, api.MaxDepth)
		for _, v := range []jval.Value{v, object("matchers", list, "endsAt", text), object("matchers", list, "endsAt", at90, "comment", state), object(state, v), {Kind: jval.Object, Keys: []string{text}}} {
			s, e := Read(v, now)
			if e == api.OK && Right(s) != api.OK || e != api.OK && s != (Silence{}) {
				t.Errorf("Read is %+v, %d", s, e)
			}
			if e == api.OK {
				expectDecode(t, Encode(s), s)
			}
		}
		if s, e := Decode(text); e == api.OK && (Right(s) != api.OK || Encode(s) != text) {
			t.Errorf("Decode(%q) is %+v", text, s)
		}
		if id, ok := OfKey(text); ok && Key(id) != text {
			t.Errorf("OfKey(%q) is %d", text, id)
		}
		if id, ok := OfKey(Key(a)); ok != (a >= 0 && a <= 9999999999) || ok && id != a {
			t.Errorf("OfKey(Key(%d)) is %d, %v", a, id, ok)
		}
		s := Silence{a, list, a, b, text, state, state}
		for _, l := range []label.Set{{}, set(t, "a", "1")} {
			if Mutes(s, l) && state != Active {
				t.Errorf("%+v mutes", s)
			}
		}
		x, e := Expire(s, now)
		if again, no := Expire(x, now); e == api.OK && (no != api.ErrState || again != Silence{}) {
			t.Errorf("%+v at %d ended twice", s, now)
		}
		Update(s, s, now)
		Update(s, in(of(b, a), state), now)
		if got, e := Decode(Encode(At(s, now))); Right(s) == api.OK && (e != api.OK || got != At(s, now)) {
			t.Errorf("%+v became %+v, %d", s, got, e)
		}
	})
}
