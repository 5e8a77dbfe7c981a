package asm_test

import (
	"fmt"
	"math"
	"strings"
	"testing"

	"retort/api"
)

const begin = "func f 0 0 0\n"

// Each byte ahead of an instruction, behind it, within its word and in a comment.
func TestBytesOfLines(t *testing.T) {
	for c := range 256 {
		s := string([]byte{byte(c)})
		blank := c == 9 || c == 13 || c == 32
		for _, text := range []string{begin + s + "nop", begin + "nop" + s, begin + "num" + s + "1", s + "\n" + begin + "nop", begin + "nop\n" + s} {
			got := parse(t, text)
			if blank && got.e != api.OK {
				t.Errorf("P1401: the blank %d in %q: %v", c, text, got.e)
			}
			if (c < 9 || c > 13 && c < 32 || c > 126 || c == 11 || c == 12) && got.e != api.ErrLine {
				t.Errorf("P1401: the byte %d in %q: %v", c, text, got.e)
			}
		}
		if c != '\n' {
			tells(t, begin+"nop;"+s, plain(one(api.INop, 0)))
			tells(t, begin+"nop ; a"+s+"b\n;"+s+"\nret", plain(one(api.INop, 0), one(api.IRet, 0)))
			tells(t, ";"+s+"\n"+begin+"num 1;"+s+s, plain(one(api.INum, 1)))
		}
		parse(t, begin+"a"+s+"b: jump a"+s+"b")
		parse(t, begin+"a: "+s+"jump"+s+" a"+s)
		parse(t, begin+"num -"+s+"1"+s)
		parse(t, begin+"num 0"+s+"1")
	}
}

// Runes of more than one byte are no pieces, whatever their last bytes are; broken ones neither.
func TestRunesBeyond(t *testing.T) {
	for _, s := range []string{"\u00e9", "\u017f", "\u212a", "\u0663", "\u00a0", "\u2028", "\u0085", "\u013b", "\U0001f600", "\xc3", "\xe2\x82", "\xff\xfe", "\xed\xa0\x80", "\uFFFD", "\u0461", "\U00010061"} {
		refused(t, begin+s, 2, api.ErrLine)
		refused(t, begin+"nop "+s, 2, api.ErrLine)
		refused(t, begin+"nop"+s+"; a", 2, api.ErrLine)
		refused(t, begin+"a"+s+": nop", 2, api.ErrLine)
		refused(t, begin+"num 1"+s, 2, api.ErrLine)
		refused(t, "data \""+s+"\"\n"+begin+"nop", 1, api.ErrLine)
		refused(t, "data \"\\x"+s+"\"\n"+begin+"nop", 1, api.ErrLine)
		tells(t, begin+"nop;"+s+"\nret;"+s, plain(one(api.INop, 0), one(api.IRet, 0)))
	}
}

func TestNumbers(t *testing.T) {
	for _, c := range []struct {
		text string
		want int
	}{
		{"0", 0}, {"-0", 0}, {"00", 0}, {"-00", 0}, {"7", 7}, {"-3", -3}, {"007", 7}, {"-007", -7}, {"08", 8},
		{"9223372036854775807", math.MaxInt}, {"-9223372036854775808", math.MinInt}, {"-9223372036854775807", -math.MaxInt},
		{strings.Repeat("0", 300) + "9223372036854775807", math.MaxInt}, {"-" + strings.Repeat("0", 40000) + "1", -1},
		{"0x0", 0}, {"0xf", 15}, {"0x1f", 31}, {"0x7fffffffffffffff", math.MaxInt}, {"0x8000000000000000", math.MinInt}, {"0xffffffffffffffff", -1}, {"0xfffffffffffffffe", -2}, {"0x0000000000000001", 1}, {"0x123456789abcdef", 0x123456789abcdef},
	} {
		tells(t, begin+"num "+c.text, plain(one(api.INum, c.want)))
		tells(t, begin+"\tnum\t"+c.text+"\r", plain(one(api.INum, c.want)))
		tells(t, begin+"num "+c.text+"; 1", plain(one(api.INum, c.want)))
	}
	for n := 1; n <= 17; n++ {
		got := parse(t, begin+"num 0x"+strings.Repeat("1", n))
		is(t, fmt.Sprintf("P1401: 0x and %d digits", n), got.e == api.OK, n <= 16)
	}
}

func TestNumbersBeyond(t *testing.T) {
	for _, s := range []string{"9223372036854775808", "-9223372036854775809", "18446744073709551615", "18446744073709551616", "99999999999999999999", "-18446744073709551616", "36893488147419103233", strings.Repeat("9", 50000), "-" + strings.Repeat("0", 9) + "9223372036854775809"} {
		refused(t, begin+"num "+s, 2, api.ErrNumber)
		refused(t, begin+"jump "+s, 2, api.ErrNumber)
		refused(t, begin+"call "+s, 2, api.ErrNumber)
		refused(t, begin+"sys "+s, 2, api.ErrNumber)
		refused(t, begin+"get "+s, 2, api.ErrNumber)
		refused(t, begin+"copy "+s, 2, api.ErrNumber)
		refused(t, "memory "+s+"\n"+begin+"nop", 1, api.ErrNumber)
		for i := range 3 {
			n := []string{"0", "0", "0"}
			n[i] = s
			refused(t, "func f "+strings.Join(n, " ")+"\nnop", 1, api.ErrNumber)
		}
		for _, more := range []string{"x", "_", "a", "G", "-", "\"", ":", " 1", ".", "e5"} {
			refused(t, begin+"num "+s+more, 2, api.ErrLine)
		}
		refused(t, begin+"num 1"+s[1:]+"x", 2, api.ErrLine)
		tells(t, begin+"nop ;"+s, plain(one(api.INop, 0)))
	}
}

func TestNoNumbers(t *testing.T) {
	for _, s := range []string{"-", "--1", "+1", "1-", "1-2", "1x", "1_0", "_1", "1a", "1.0", "1e3", "0x", "0X1", "0xA", "0xF", "0xffffG", "0xfffF", "0xg", "-0x1", "-0xf", "00x1", "1x1", "0x1x", "0x-1", "0x_1", "0x1_1", "0b1", "0o7", "0x00000000000000001", "0xfffffffffffffffff", "0x10000000000000000", "- 1", "0x 1", "0 x1", "x1", "a", "'1'", "\"1\"", "1:", "1,", "(1)", "1\x00", "0x1\x80"} {
		refused(t, begin+"num "+s, 2, api.ErrLine)
		refused(t, "memory "+s+"\n"+begin+"nop", 1, api.ErrLine)
		refused(t, "func f 0 0 "+s+"\nnop", 1, api.ErrLine)
		refused(t, "func f "+s+" 0 0\nnop", 1, api.ErrLine)
	}
}

func TestStrings(t *testing.T) {
	for _, c := range []struct {
		text string
		want string
	}{
		{`""`, ""}, {`"a"`, "a"}, {`"\""`, `"`}, {`"\\"`, `\`}, {`"\x00"`, "\x00"}, {`"\xff\x7f\x80"`, "\xff\x7f\x80"}, {`"\x0a\x0d\x09"`, "\n\r\t"},
		{`"a;b"`, "a;b"}, {`";"`, ";"}, {`"\";"`, `";`}, {`"\\";"`, `\`}, {`" a b "`, " a b "}, {`"a:b"`, "a:b"}, {`"\x3b"`, ";"}, {`"\x22"`, `"`}, {`"\x5c"`, `\`},
		{`"\x5cx41"`, `\x41`}, {`"\\x41"`, `\x41`}, {`"\x411"`, "A1"}, {`"func f 0 0 0"`, "func f 0 0 0"}, {`"~! #[]"`, "~! #[]"}, {`"\\\\\"\""`, `\\""`}, {`"'"`, "'"}, {`"0x1"`, "0x1"},
	} {
		want := plain(one(api.INop, 0))
		want.Memory, want.Data = 100, []byte(c.want)
		tells(t, "memory 100\ndata "+c.text+"\n"+begin+"nop", want)
		tells(t, " data \t"+c.text+"\r;\"\nmemory 0x64\n"+begin+"nop", want)
		tells(t, "data "+c.text+";a\"b\nmemory 100\n"+begin+"nop", want)
	}
	for _, s := range []string{`"`, `"a`, `"\"`, `"\\\"`, `"\x"`, `"\x4"`, `"\x4g"`, `"\xG0"`, `"\x4F"`, `"\xFF"`, `"\X41"`, `"\n"`, `"\t"`, `"\0"`, `"\a"`, `"\'"`, `"\`, `"\x`, `"\x4`, `"\x41`, `"\;"`, `"\x;41"`, `"\x 41"`, `"\ x41"`, `"a"b`, `"a"b"`, `"a""b"`, `"a"1`, `"a"-1`, `"a":`, `"a" "b"`, `"a" 1`, `"a" b`, `a"a"`, `1"a"`, `1`, `a`, ``, `:"a"`, `"a;b`, `"a` + ";", `'a'`, "\"a\tb\"", "\"a\rb\"", "\"\x7f\"", "\"\x00\"", "\"\x1f\"", "\"\x80\"", "\"a\nb\""} {
		refused(t, "memory 100\ndata "+s+"\n"+begin+"nop", 2, api.ErrLine)
	}
	refused(t, "data\"a\"", 1, api.ErrLine)
	refused(t, "data\"a", 1, api.ErrLine)
	refused(t, begin+"num \"1\"", 2, api.ErrLine)
}

// Each byte as it stands in a string, behind a `\`, and as each digit behind `\x`.
func TestBytesOfStrings(t *testing.T) {
	for c := range 256 {
		s := string([]byte{byte(c)})
		got := parse(t, "memory 9\ndata \"a"+s+"b\"\n"+begin+"nop")
		is(t, fmt.Sprintf("P1401: the byte %d in a string", c), got.e == api.OK, c >= 32 && c <= 126 && c != '"' && c != '\\')
		got = parse(t, "memory 9\ndata \"a\\"+s+"b\"\n"+begin+"nop")
		is(t, fmt.Sprintf("P1401: the byte %d behind a backslash", c), got.e == api.OK, c == '"' || c == '\\')
		hex := c >= '0' && c <= '9' || c >= 'a' && c <= 'f'
		for _, two := range []string{s + "0", "f" + s} {
			got = parse(t, "memory 9\ndata \"\\x"+two+"\"\n"+begin+"nop")
			is(t, fmt.Sprintf("P1401: the digits %q", two), got.e == api.OK, hex)
		}
		want := plain(one(api.INop, 0))
		want.Memory, want.Data = 1, []byte{byte(c)}
		tells(t, fmt.Sprintf("memory 1\ndata \"\\x%02x\"\n%snop", c, begin), want)
	}
}

// Two words, numbers, strings with nothing between are wrong; at a `:` there need be none.
func TestBlanksBetween(t *testing.T) {
	for _, s := range []string{"num-1", "num\"a\"", "num1", "num 1\"a\"", "num 1a", "num 1-1", "\"a\"nop", "jump\"a\"", "a:num-1", "a:1nop", "1:nop", "-1:nop", "\"a\":nop", ":", ": nop", "a::nop", "a: :nop", "a : : nop", "nop:nop:nop nop", "num 1 :", "a: num 1:", "nop :nop: a:1"} {
		refused(t, begin+s, 2, api.ErrLine)
	}
	for _, s := range []string{"a:num 1", "a :num 1", "a\t:\rnum\t1", "a:\tnum \t\r 1", "  a  :  num   1  ", "a:num 1;", "a:num 1;x", "num 1", "\tnum 1"} {
		tells(t, begin+s, plain(one(api.INum, 1)))
	}
	for _, s := range []string{"memory0", "memory-1", "memory\"a\"", "memory 0 0", "memory", "memory a", "data", "data 1", "data a", "func", "func f", "func f 0", "func f 0 0", "func f 0 0 0 0", "func f 0 0 0 a", "func f 0 0 0 nop", "func f 0 0 0:", "func f: 0 0 0", "func 1 0 0 0", "func \"f\" 0 0 0", "func f a 0 0", "func f 0 a 0", "func f 0 0 a", "func f \"0\" 0 0", "func f-1 0 0", "func f 0-1 0", "funcf 0 0 0", "func : 0 0 0", "memory :", "memory: 1", "data: \"a\"", "func : f 0 0 0", "a:", "nop", "jump a", "1", "\"a\"", "Memory 1", "MEMORY 1", "Data \"a\"", "Func f 0 0 0", "memory1 1", "import a"} {
		refused(t, s, 1, api.ErrLine)
		refused(t, s+"\n"+begin+"nop", 1, api.ErrLine)
	}
}
