package json_test

import (
	"fmt"
	"regexp"
	"slices"
	"strings"
	"testing"

	"erratum/api"
	"erratum/json"
	"erratum/jstr"
	"erratum/num"
	"erratum/tree"
)

// numberRun is what is read as a number.
var numberRun = regexp.MustCompile(`^[-0-9][-+.0-9eE]*`)

// level is an array or an object that has not ended.
type level struct {
	object bool
	names  []string
	values []api.Tree
}

// end is the sign that ends it.
func (l level) end() string {
	if l.object {
		return "}"
	}
	return "]"
}

// value is what it is once it has ended; a name twice is Malformed.
func (l level) value() (api.Tree, api.Errno) {
	if !l.object {
		return list(l.values...), api.OK
	}
	members := map[string]api.Tree{}
	for i, name := range l.names {
		members[name] = l.values[i]
	}
	t := api.Tree{Kind: api.Object}
	for name := range members {
		t.K = append(t.K, name)
	}
	slices.Sort(t.K)
	for _, name := range t.K {
		t.V = append(t.V, members[name])
	}
	if len(members) < len(l.names) {
		return api.Tree{}, api.Malformed
	}
	return t, api.OK
}

// simple is a value that is neither an array nor an object, and what is behind it.
func simple(s string) (t api.Tree, behind string, e api.Errno) {
	switch {
	case strings.HasPrefix(s, "null"):
		return null(), s[4:], api.OK
	case strings.HasPrefix(s, "true"):
		return truth(true), s[4:], api.OK
	case strings.HasPrefix(s, "false"):
		return truth(false), s[5:], api.OK
	}
	if run := numberRun.FindString(s); run != "" {
		n, e := num.Parse(run)
		return api.Tree{Kind: api.Number, N: n}, s[len(run):], e
	}
	read, next, e := jstr.Unquote(s, 0)
	if len(read) > api.MaxText {
		e = api.Limit
	}
	return text(read), s[next:], e
}

// nameAhead is a member's name, and what is behind its colon.
func nameAhead(s string) (name, behind string, e api.Errno) {
	if !strings.HasPrefix(s, `"`) {
		return "", "", api.Malformed
	}
	t, behind, e := simple(s)
	behind = strings.TrimLeft(behind, "\t\n\r ")
	if e == api.OK && !strings.HasPrefix(behind, ":") {
		e = api.Malformed
	}
	return t.S, strings.TrimPrefix(behind, ":"), e
}

// decodedOf is what Decode must answer. It goes by a list of what has not ended, and by what has to come next: a value, the first part or none, a part, or what is behind a value.
func decodedOf(s string) (api.Tree, api.Errno) {
	var open []level
	var last api.Tree // the value that has ended last
	nodes, state := 1, "value"
	if len(s) > api.MaxFile {
		return api.Tree{}, api.Limit
	}
	for {
		var e api.Errno
		s = strings.TrimLeft(s, "\t\n\r ")
		top := len(open) - 1
		switch {
		case state == "behind" && top < 0:
			if s != "" {
				return api.Tree{}, api.Malformed
			}
			return last, api.OK
		case state != "value" && state != "part" && strings.HasPrefix(s, open[top].end()):
			last, e = open[top].value()
			open, s, state = open[:top], s[1:], "behind"
			if len(open) > 0 {
				open[top-1].values = append(open[top-1].values, last)
			}
		case state == "behind":
			if !strings.HasPrefix(s, ",") {
				return api.Tree{}, api.Malformed
			}
			s, state = s[1:], "part"
		case state != "value":
			if nodes++; nodes > api.MaxNodes || len(open) == api.MaxDepth || len(open[top].values) == api.MaxItems {
				return api.Tree{}, api.Limit
			}
			state = "value"
			if !open[top].object {
				break
			}
			var name string
			name, s, e = nameAhead(s)
			open[top].names = append(open[top].names, name)
		case strings.HasPrefix(s, "[") || strings.HasPrefix(s, "{"):
			open = append(open, level{object: s[0] == '{'})
			s, state = s[1:], "first"
		default:
			last, s, e = simple(s)
			state = "behind"
			if top >= 0 {
				open[top].values = append(open[top].values, last)
			}
		}
		if e != api.OK {
			return api.Tree{}, e
		}
	}
}

// short is a text as a fault tells it.
func short(s string) string {
	if len(s) <= 160 {
		return fmt.Sprintf("%q", s)
	}
	return fmt.Sprintf("%q.. (%d bytes) ..%q", s[:70], len(s), s[len(s)-70:])
}

// holdDecode holds Decode against what it must answer: the value in every field.
func holdDecode(t *testing.T, s string, want api.Tree, wantE api.Errno) {
	t.Helper()
	got, e := json.Decode(s)
	if e != wantE || !exact(got, want) {
		t.Errorf("Decode of %s: kind %d, %d, not kind %d, %d", short(s), got.Kind, e, want.Kind, wantE)
	}
	if e == api.OK && !tree.Check(got) {
		t.Errorf("Decode of %s: what may not be", short(s))
	}
	if told, toldE := decodedOf(s); toldE != wantE || !exact(told, want) {
		t.Errorf("another reader of %s: kind %d, %d", short(s), told.Kind, toldE)
	}
}

// refuse holds Decode against an error.
func refuse(t *testing.T, s string, e api.Errno) {
	t.Helper()
	holdDecode(t, s, api.Tree{}, e)
}

// good are texts and what they are.
func good() map[string]api.Tree {
	return map[string]api.Tree{
		"null": null(), "true": truth(true), "false": truth(false),
		"0": number("0"), "-0": number("0"), "-0.0e-9": number("0"), "7": number("7"), "-7": number("-7"), "1.50": number("15e-1"), "15e-1": number("15e-1"), "1e5": number("100000"), "1E+5": number("100000"), "1.25E-3": number("0.00125"), "120000000000000000000000000000": number("12e28"), "1e1200": number("1e1200"), "0e999999999": number("0"),
		`""`: text(""), `"a"`: text("a"), `"\u0041\n\/\"\\"`: text("A\n/\"\\"), `"\ud834\udd1e"`: text("\U0001d11e"), "\"\u20ac\x7f\"": text("\u20ac\x7f"), `"[1,{\"a\":2}]"`: text(`[1,{"a":2}]`), `" a "`: text(" a "), `"null"`: text("null"),
		"[]": list(), "[0]": list(number("0")), "[null,true,false]": list(null(), truth(true), truth(false)), `["",[],{}]`: list(text(""), list(), named()), "[[[]],[]]": list(list(list()), list()), "[-1,-2]": list(number("-1"), number("-2")), `["a","b"]`: list(text("a"), text("b")),
		"{}": named(), `{"a":0}`: named("a"), `{"":0}`: named(""), `{"b":1,"a":0}`: named("a", "b"), `{"c":2,"a":0,"b":1}`: named("a", "b", "c"), `{"b":1,"a":[true]}`: {Kind: api.Object, K: []string{"a", "b"}, V: []api.Tree{list(truth(true)), number("1")}},
		`{"9":1,"10":0}`: named("10", "9"), `{"A":0,"a":1}`: named("A", "a"), `{"\n":0,"A":1}`: named("\n", "A"), "{\"\U00010000\":1,\"\uffff\":0}": named("\uffff", "\U00010000"), `{"\ud800\udc00":1,"\uffff":0}`: named("\uffff", "\U00010000"), `{"\u0061":0,"\\u0061":1}`: {Kind: api.Object, K: []string{`\u0061`, "a"}, V: []api.Tree{number("1"), number("0")}},
		`{"a":{"a":{"a":{}}}}`: one("a", one("a", one("a", named()))), `[{"a":0},{"a":0}]`: list(named("a"), named("a")), `{"a":[],"b":{},"c":"","d":null}`: {Kind: api.Object, K: []string{"a", "b", "c", "d"}, V: []api.Tree{list(), named(), text(""), null()}},
	}
}

// P8.2
func TestDecodeNamed(t *testing.T) {
	for s, v := range good() {
		holdDecode(t, s, v, api.OK)
		holdDecode(t, "["+s+","+s+"]", list(v, v), api.OK)
		holdDecode(t, `{"y":`+s+`,"x":`+s+`}`, api.Tree{Kind: api.Object, K: []string{"x", "y"}, V: []api.Tree{v, v}}, api.OK)
	}
}

// P8.2: blanks may stand around each sign and value; nothing else may, and blanks may not stand within one.
func TestDecodeBlanks(t *testing.T) {
	signs := []string{"", "[", "{", `"a"`, ":", "1", ",", `"b"`, ":", "{", "}", "}", ",", "[", "]", ",", "true", ",", "null", ",", `"x y"`, ",", "-1.5e3", "]", ""}
	whole := strings.Join(signs, "")
	want, e := json.Decode(whole)
	if e != api.OK {
		t.Fatal(e)
	}
	for _, blank := range []string{" ", "\t", "\n", "\r", "\r\n", " \t\r\n  "} {
		holdDecode(t, strings.Join(signs, blank), want, api.OK)
		for i := range signs {
			holdDecode(t, strings.Join(signs[:i], "")+blank+strings.Join(signs[i:], ""), want, api.OK)
		}
	}
	for _, other := range []string{"\x00", "\b", "\v", "\f", "\x1f", "\x7f", "\x85", "\xa0", "\u0085", "\u00a0", "\u2003", "\u2028", "\u3000", "\ufeff", "/**/", "//\n", "#\n", ";", "\\n", "\\", "'", "_", "\xff"} {
		for i := 1; i < len(signs); i++ {
			ahead, behind := strings.Join(signs[:i], ""), strings.Join(signs[i:], "")
			refuse(t, ahead+other+behind, api.Malformed)
			refuse(t, ahead+" "+other+" "+behind, api.Malformed)
		}
	}
	for _, s := range []string{"nul l", "t rue", "fals\ne", "1 2", "- 1", "1 .5", "1. 5", "1 e5", "1e 5", "1e+ 5", "\"a\tb\"", "\"a\nb\"", "", " ", "\t\r\n "} {
		refuse(t, s, api.Malformed)
		refuse(t, "["+s+"\n", api.Malformed)
	}
}

// P8.2: every text that ends too soon.
func TestDecodeCut(t *testing.T) {
	for s := range good() {
		s = ` [ "x" , { "a" : ` + s + `, "b\u0041" : [ null , -1.5e+3 ] , "" : true } , false ] `
		holdDecode(t, s, first(json.Decode(s)), api.OK)
		for end := range len(s) - 1 {
			refuse(t, s[:end], api.Malformed)
		}
	}
}

// first is a call's value, whatever its error.
func first(t api.Tree, _ api.Errno) api.Tree { return t }

// P8.2
func TestDecodeMalformed(t *testing.T) {
	for _, s := range []string{
		"nul", "nulL", "Null", "NULL", "nil", "n", "t", "tru", "True", "tRue", "f", "fals", "False", "falsE", "truefalse", "nullnull", "undefined", "NaN", "Infinity", "-Infinity", "x", "'a'", "a", "`a`",
		"+1", ".5", "01", "-01", "00", "-", "--1", "1.", "1.e5", "-.5", "1e", "1e+", "1e-", "1ee5", "1e5e5", "1e5.5", "1e+-5", "1.5.5", "1-1", "1+1", "-a", "0x10", "1_000", "1a", "1f", "1,000", "1e5,", "e5", "E5", "\u0661", "\uff11",
		`"`, `"a`, `a"`, `"a"b"`, `"\x"`, `"\u12"`, `"\ud800"`, `"\udc00\ud800"`, "\"\xff\"", "\"\x00\"", "\"\x1f\"", `""""`, `"a""b"`, `"a" "b"`,
		"[", "]", "[]]", "[[]", "[1", "[1,", "[1,]", "[,1]", "[,]", "[1,,2]", "[1 2]", "[1;2]", "[1:2]", "[1}", "[}", "[1]]", "[][]", "[1],", ",[1]", "[1,2", "[\"a\"", "[nul]", "[truefalse]", "[1[]]", "[[]1]", "[[][]]", "[1\"a\"]", "[{}{}]", "(1)", "[1)",
		"{", "}", "{}}", "{{}", "{]", "{\"a\"", "{\"a\"}", "{\"a\":", "{\"a\":}", "{\"a\":1", "{\"a\":1,", "{\"a\":1,}", "{,}", "{,\"a\":1}", "{\"a\":1,,\"b\":2}", "{\"a\":1 \"b\":2}", "{\"a\":1;\"b\":2}", "{\"a\" 1}", "{\"a\"::1}", "{\"a\"=1}", "{\"a\",1}", "{:1}", "{a:1}", "{'a':1}", "{1:2}", "{null:1}", "{true:1}", "{[]:1}", "{{}:1}", "{\"a\":1]", "{\"a\":1}}", "{\"a\":1}{}", "{\"a\":\"b\":1}", "{\"a\"\"b\":1}", "{\"a\xff\":1}", "{\"\\ud800\":1}", "{\"a\":1:2}", "{\"a\":nul}", "{\"a\":,\"b\":1}",
		"1 2", "1,", "1,2", "null,", "null null", "{} []", "[] 1", "\"a\":1", "1]", "1}", "null\x00", "\x00null", "\ufeffnull", "null\ufeff", "\xef\xbb\xbf[]", "1//", "/* */1", "[1,/**/2]", "\\u0031",
	} {
		refuse(t, s, api.Malformed)
		refuse(t, " "+s+" ", api.Malformed)
		refuse(t, s+"\x00", api.Malformed)
	}
}

// P8.2: a name twice, told at the end of its object: what is wrong ahead of that is told first, what is behind is not.
func TestDecodeNamesTwice(t *testing.T) {
	huge := "1e1201"
	for _, s := range []string{`{"a":1,"a":2}`, `{"a":1,"a":1}`, `{"":1,"":2}`, `{"a":1,"\u0061":2}`, `{"\u0061":1,"\u0061":2}`, `{"b":1,"a":2,"b":3}`, `{"a":1,"b":2,"c":3,"c":4,"d":5}`, `{"/":1,"\/":2}`, "{\"\\n\":1,\"\\u000a\":2}", "{\"\U0001d11e\":1,\"\\ud834\\udd1e\":2}", `{"a":{},"a":{}}`, `{"a":1,"a":2,"a":3}`} {
		refuse(t, s, api.Malformed)
		refuse(t, "["+s+"]", api.Malformed)
		refuse(t, `{"x":`+s+`,"y":1}`, api.Malformed)
		refuse(t, "["+s+","+huge+"]", api.Malformed)
		refuse(t, "["+huge+","+s+"]", api.Limit)
		refuse(t, s[:len(s)-1]+`,"z":`+huge+"}", api.Limit)
		refuse(t, s[:len(s)-1]+`,"`+strings.Repeat("z", 2001)+`":1}`, api.Limit)
	}
	for _, s := range []string{`[{"a":1},{"a":2}]`, `{"a":{"a":{"a":1}},"b":{"a":1}}`, `{"a":1,"A":2,"aa":3,"":4,"a ":5,"a\u0000":6}`, `{"e\u0301":1,"\u00e9":2}`, `{"a":"b","b":"a"}`} {
		holdDecode(t, s, first(decodedOf(s)), api.OK)
	}
}

// around are n signs that open arrays, objects, or both by turns, and as many that end them.
func around(n int, signs ...string) (ahead, behind string) {
	for i := range n {
		sign := signs[i%len(signs)]
		ahead += sign
		behind = map[byte]string{'[': "]", '{': "}"}[strings.TrimLeft(sign, " ")[0]] + behind
	}
	return ahead, behind
}

// whatever is what may stand where there is no room, to no avail.
func whatever() []string {
	return []string{"", "1", "1]", "null", "nul", "x", "}", ":", ",", "\x00", "\xff", "\"", `"a"`, `"a":1}`, `"a" 1`, `"\x"`, "[", "[]", "{", "{}", "1e1201", "+", " ", "\n1", "\r\t x", strings.Repeat("9", 2001), `"` + strings.Repeat("x", 2001) + `"`}
}

// P8.2
func TestDecodeDepth(t *testing.T) {
	for _, signs := range [][]string{{"["}, {`{"a":`}, {"[", `{"a":`}, {`{"":`, "[", " [ "}} {
		for depth := 60; depth <= 70; depth++ {
			ahead, behind := around(depth-1, signs...)
			wantE := api.OK
			if depth > api.MaxDepth {
				wantE = api.Limit
			}
			for s, v := range map[string]api.Tree{"null": null(), "1": number("1"), `"a"`: text("a"), "[]": list(), "{}": named(), "[ ]": list(), "{\n}": named()} {
				got, e := json.Decode(ahead + s + behind)
				if e != wantE || e == api.OK && (!tree.Check(got) || tree.Depth(got) != depth) {
					t.Errorf("%d deep: %d", depth, e)
				}
				for got.Kind != 0 && len(got.V) > 0 {
					got = got.V[0]
				}
				if e == api.OK && !exact(got, v) {
					t.Errorf("%d deep: %v", depth, got)
				}
			}
		}
		ahead, _ := around(63, signs...)
		for _, s := range whatever() {
			if strings.TrimSpace(s) != "}" {
				refuse(t, ahead+"{"+s, api.Limit)
				refuse(t, ahead+" { \n"+s, api.Limit)
			}
			refuse(t, ahead+"["+s, api.Limit)
			refuse(t, ahead+" [\t"+s, api.Limit)
			refuse(t, ahead+"[ "+s, api.Limit)
		}
		for _, s := range []string{"", "x", "}", ",", "nul", "[}", "{]", "[]", "{}"} { // as deep as may be
			e := api.Malformed
			if s == "[}" || s == "{]" {
				e = api.Limit
			}
			refuse(t, ahead+s, e)
		}
	}
	holdDecode(t, strings.Repeat("[", 63)+"[]"+strings.Repeat("]", 63), nest(63, list(), inArray), api.OK)
	flat := "[" + strings.Repeat("[[]],", 200) + "{}]" // many one after the other are no deeper
	holdDecode(t, flat, list(append(many(200, list(list())), named())...), api.OK)
	refuse(t, strings.Repeat("[", api.MaxFile), api.Limit)
	refuse(t, strings.Repeat(`{"":`, api.MaxFile/4), api.Limit)
}

// members is the text of so many members, with names that are short and rise, with a comma behind each.
func members(n int) string {
	var b strings.Builder
	for _, name := range manyNames(n) {
		b.WriteString(`"` + name + `":1,`)
	}
	return b.String()
}

// P8.2
func TestDecodeItems(t *testing.T) {
	items := strings.Repeat("1,", 300)
	for n := 295; n <= 305; n++ {
		array, object := "["+strings.Repeat("1,", n-1)+"1]", "{"+strings.TrimSuffix(members(n), ",")+"}"
		ones, names := list(many(n, number("1"))...), api.Tree{Kind: api.Object, K: manyNames(n), V: many(n, number("1"))}
		e := api.OK
		if n > api.MaxItems {
			e, ones, names = api.Limit, api.Tree{}, api.Tree{}
		}
		holdDecode(t, array, ones, e)
		holdDecode(t, object, names, e)
		if n <= api.MaxItems {
			holdDecode(t, "["+array+","+object+","+array+"]", list(ones, names, ones), api.OK) // each has a room of its own
		}
	}
	for _, s := range whatever() {
		refuse(t, "["+items+s, api.Limit)
		refuse(t, "["+items+"]"+s, api.Limit)
		refuse(t, "[ "+items+" \r\n"+s, api.Limit)
		refuse(t, "{"+members(300)+s, api.Limit)
		refuse(t, "{"+members(300)+"}"+s, api.Limit)
		refuse(t, "[{"+members(300)+"\t "+s, api.Limit)
		refuse(t, `{"100000":1,`+members(299)+s, api.Limit) // a name twice is not told: the object has not ended
	}
	for _, s := range []string{"", "x", "}", "1", ":", `"a"`, "[", "]]", "],", "\x00"} { // no comma: no item
		refuse(t, "["+items[:len(items)-1]+s, api.Malformed)
	}
	refuse(t, `{"100000":1,`+members(299)[:299*11-1]+"}", api.Malformed)
}

// rows is a text of arrays with 249 items, so that it is, with the array around, so many values; it has no end.
func rows(nodes int) string {
	s := "["
	for left := nodes - 1; left > 0; {
		most := min(left, 250)
		s += "[" + strings.TrimSuffix(strings.Repeat("1,", most-1), ",") + "],"
		left -= most
	}
	return s
}

// P8.2
func TestDecodeNodes(t *testing.T) {
	for nodes := 1990; nodes <= 2010; nodes++ {
		s := strings.TrimSuffix(rows(nodes), ",") + "]"
		got, e := json.Decode(s)
		if nodes <= api.MaxNodes {
			if e != api.OK || !tree.Check(got) || tree.Nodes(got) != nodes {
				t.Errorf("%d values: %d", nodes, e)
			}
		} else if e != api.Limit || !exact(got, api.Tree{}) {
			t.Errorf("%d values: %d", nodes, e)
		}
	}
	full, almost := rows(2000), rows(1999)
	for _, s := range whatever() {
		refuse(t, full+s, api.Limit)
		refuse(t, full+"\n "+s, api.Limit)
		refuse(t, almost+"["+s, api.Limit)
		refuse(t, rows(1997)+"[null,1,"+s, api.Limit)
		refuse(t, rows(1998)+`{"a":1 , `+s, api.Limit)
		if s != "}" {
			refuse(t, almost+"{ "+s, api.Limit)
		}
	}
	for _, end := range []string{"1]", "[]]", "{}]", "[ ] ]", `"a"]`} {
		if got, e := json.Decode(almost + end); e != api.OK || tree.Nodes(got) != 2000 {
			t.Errorf("2000 values with %s: %d", end, e)
		}
	}
	if got, e := json.Decode(rows(1998) + `{"a":1}]`); e != api.OK || tree.Nodes(got) != 2000 { // a name is no value
		t.Errorf("2000 values with a member: %d", e)
	}
	refuse(t, strings.TrimSuffix(full, ",")+"x", api.Malformed)
	refuse(t, almost+"x", api.Malformed)
	refuse(t, almost+"1,]", api.Limit)
}

// P8.2: a text, told behind it.
func TestDecodeTextLimit(t *testing.T) {
	for _, x := range []struct {
		piece, is string
	}{{"x", "x"}, {`\u0078`, "x"}, {`\n`, "\n"}, {"\u20ac", "\u20ac"}, {`\u20ac`, "\u20ac"}, {`\ud834\udd1e`, "\U0001d11e"}, {"\u00e9", "\u00e9"}} {
		most := api.MaxText / len(x.is)
		pad := strings.Repeat("x", api.MaxText-most*len(x.is))
		piece, is := strings.Repeat(x.piece, most)+pad, strings.Repeat(x.is, most)+pad
		holdDecode(t, `"`+piece+`"`, text(is), api.OK)
		holdDecode(t, `{"`+piece+`":null}`, one(is, null()), api.OK)
		holdDecode(t, `["`+piece+`"]`, list(text(is)), api.OK)
		for _, behind := range []string{"", "x", "]", ":1}", `"`, "\x00", `\`} {
			refuse(t, `"`+piece+`x"`+behind, api.Limit)
			refuse(t, `"x`+piece+`"`+behind, api.Limit)
			refuse(t, `["`+piece+x.piece+`"`+behind, api.Limit)
			refuse(t, `{"`+piece+x.piece+`"`+behind, api.Limit)
			refuse(t, `{"a":"`+piece+x.piece+`"`+behind, api.Limit)
			if behind != "" && !strings.HasPrefix(behind, ":") {
				refuse(t, `{"`+piece+`"`+behind, api.Malformed)
			}
		}
		for _, wrong := range []string{"", `\`, `\"`, `\x"`, `\ud800"`, "\n\"", "\xff\""} { // the text has not ended: Unquote's word
			refuse(t, `"`+piece+x.piece+wrong, api.Malformed)
			refuse(t, `{"`+piece+x.piece+wrong+":1}", api.Malformed)
		}
	}
}

// P8.2: a number, told behind it, read as far as its signs go.
func TestDecodeNumberLimit(t *testing.T) {
	long := strings.Repeat("1", 2001)
	for _, s := range []string{"1e1201", "-1e1201", "1e-1201", "1E+9999999", "-0.1e1202", "1e99999999999999999999", strings.Repeat("9", 868), "-" + strings.Repeat("9", 900) + ".5", long, "-" + long, "0." + long, "1e" + long, "0e" + long, "-" + strings.Repeat("+", 2000), "1" + strings.Repeat(".", 2000), "0" + strings.Repeat("eE", 1000), strings.Repeat("0", 2001)} {
		for _, behind := range []string{"", " ", "x", "]", "}", ",", "\"", "\x00", ":", "a5", "_", "/", " 1"} {
			refuse(t, s+behind, api.Limit)
			refuse(t, "["+s+behind, api.Limit)
			refuse(t, `{"a" : `+s+behind, api.Limit)
		}
	}
	for _, s := range []string{"1e1201.", "1e1201e", "1e1201-", "1e1201+1", "1e-1201E5", "-+1e1201", "01e1201", strings.Repeat("9", 868) + ".", "1." + strings.Repeat("-", 1998), strings.Repeat("0", 2000)} {
		refuse(t, s, api.Malformed)
		refuse(t, "["+s+"]", api.Malformed)
		refuse(t, s+"x", api.Malformed)
	}
	refuse(t, "+"+long, api.Malformed) // it begins with no sign of a number
	refuse(t, "."+long, api.Malformed)
	refuse(t, "e"+long, api.Malformed)
	for _, s := range []string{"1e1200", "-1e-1200", "100e1198", "0.001e1203", strings.Repeat("9", 866), "0." + strings.Repeat("0", 1997) + "e", "0e9999999", "1." + strings.Repeat("0", 1998), strings.Repeat("1", 300) + "." + strings.Repeat("0", 1699)} {
		if strings.HasSuffix(s, "e") {
			refuse(t, s, api.Malformed)
			s = s[:len(s)-1]
		}
		holdDecode(t, s, number(s), api.OK)
		holdDecode(t, "["+s+"]", list(number(s)), api.OK)
	}
}

// P8.2: of a text that is too long nothing else is told; of one that just fits everything is.
func TestDecodeSize(t *testing.T) {
	for _, s := range []string{"", "1", "x", "[", "[1e1201", strings.Repeat("[", 70), `{"a":1,"a":2}`, "\xff", "null"} {
		want, e := decodedOf(s)
		fill := strings.Repeat(" ", api.MaxFile-len(s))
		holdDecode(t, fill+s, want, e)
		holdDecode(t, s+fill, want, e)
		for _, more := range []string{" ", "x", "]", "\x00", "\n\n"} {
			refuse(t, fill+s+more, api.Limit)
			refuse(t, s+fill+more, api.Limit)
			refuse(t, more+s+fill, api.Limit)
		}
	}
	holdDecode(t, `["`+strings.Repeat("x", 2000)+`"`+strings.Repeat(" ", api.MaxFile-2004)+"]", list(text(strings.Repeat("x", 2000))), api.OK)
	refuse(t, strings.Repeat(" ", 1<<24), api.Limit)
	refuse(t, strings.Repeat("[", 1<<24), api.Limit)
	refuse(t, strings.Repeat("\xff", 1<<16), api.Limit)
}

// P8.2: of two that are wrong, the one ahead is told.
func TestDecodeFirstWrong(t *testing.T) {
	depth := strings.Repeat("[", 64)
	wrong := map[string]api.Errno{
		"nul": api.Malformed, "]": api.Malformed, "{1": api.Malformed, `"\x"`: api.Malformed, "\"\xff\"": api.Malformed, "01": api.Malformed, "[1,]": api.Malformed, `{"a":1,"a":2}`: api.Malformed, `{"a" 1}`: api.Malformed, "1 1": api.Malformed,
		"1e1201": api.Limit, strings.Repeat("1", 2001): api.Limit, `"` + strings.Repeat("x", 2001) + `"`: api.Limit, `{"` + strings.Repeat("x", 2001) + `":1}`: api.Limit, depth: api.Limit, "[" + strings.Repeat("1,", 301): api.Limit, "{" + members(301) + "}": api.Limit, rows(2001): api.Limit,
	}
	for ahead, e := range wrong {
		for behind := range wrong {
			refuse(t, "["+ahead+","+behind+"]", e)
			refuse(t, "[null,[true,"+ahead+"],"+behind+"]", e)
			refuse(t, `{"a":`+ahead+`,"b":`+behind+`}`, e)
			refuse(t, `{"z":[{"y":`+ahead+`}],"a":`+behind+`}`, e)
		}
	}
}
