package engine_test

import (
	"strings"
	"testing"

	"spindle/api"
)

// P18.5: what Play tells of a text that Parse refuses, and of a script that Run does.
func TestPlayRefuses(t *testing.T) {
	for text, wanted := range map[string]string{
		"":                                    "line 1 error 181\n",
		"disk 60\n":                           "line 2 error 181\n",
		head + "nothing\n":                    "line 4 error 181\n",
		head + "\n#\n" + "open 1":             "line 6 error 181\n",
		sized(head, api.MaxScriptText+1):      "line 0 error 180\n",
		head + strings.Repeat("open\n", 4097): "line 4100 error 180\n",
		head + strings.Repeat("open\n", 4097) + "#\nnothing":     "line 4102 error 181\n",
		"disk 0\n" + exportLine + configLine:                     "error 30\n",
		"disk 65537\n" + exportLine + configLine:                 "error 30\n",
		"disk 10\n" + exportLine + configLine:                    "error 61\n",
		"disk 60\nexport \"\" 8 1 512 0 \"\"\n" + configLine:     "error 60\n",
		"disk 60\n" + exportLine + "config 0 2 1024 64 2\n":      "error 150\n",
		"disk 60\n" + exportLine + "config 4 17 1024 64 2\n":     "error 150\n",
		"disk 0\n" + exportLine + "config 0 2 1024 64 2\nopen\n": "error 30\n",
	} {
		wantPlayed(t, text[:min(len(text), 80)], text, wanted)
	}
}

// P18.5: whole scripts: what is told is Tell of the script and its report.
func TestPlayTells(t *testing.T) {
	for _, lines := range []string{
		"",
		everyLine,
		begin + everyLine,
		begin + strings.ReplaceAll(everyLine, "crash", "# crash"),
		begin + exampleRequest + "move 0\n" + everyLine + everyLine,
	} {
		text := head + lines
		s := wantParsed(t, text)
		wantPlayed(t, lines, text, holdTell(t, lines, s, holdRun(t, lines, s)))
	}
	wantPlayed(t, "nothing to do", head, "up\nexport 0 4096 98f94189\nqueue 0\n")
	wantPlayed(t, "a crash", head+"crash -", "> crash -\ncrash\ndown\nqueue 0\n")
}

// P18.5: a script with two clients, an option that is refused, a structured read with a hole, a block status, a private export and a tracked one.
func TestPlayOfManyThings(t *testing.T) {
	text := `disk 100
export "a" 8 1 512 8 "tracked"
export "p" 4 1 512 4 "private"
export "r" 2 512 1024 3 "read only, rotational"
config 8 3 4096 256 4
client 0 open
client 0 flags 3
client 0 list
move 0
client 0 option 5 ""
move 0
client 0 structured
move 0
client 0 set-meta "a" "base:allocation" "spindle:dirty"
move 0
client 0 go "a" 3
move 0
client 0 request 1 0 512 3 "abc"
client 0 request 0 0 511 3
client 0 request 7 0 0 4096
move 0
clear 0
client 1 open
client 1 flags 2
client 1 export "p"
move 1
client 1 request 1 1 0 1 "z"
client 1 request 0 0 0 2
client 1 request 3 0 0 0
move 1
client 2 open
client 2 flags 3
client 2 info "r" 1 2 3
move 2
client 2 export "nothing"
move 2
`
	wantPlayed(t, "many things", text, `> client 0 open
open 0 out 4e42444d4147494349484156454f50540003
heard greeting 3
> client 0 flags 3
> client 0 list
> move 0
feed 0 20
take 0 flags
take 0 option 3 out 0003e889045565a900000003000000020000000500000001610003e889045565a900000003000000020000000500000001700003e889045565a900000003000000020000000500000001720003e889045565a9000000030000000100000000
heard export "a"
heard export "p"
heard export "r"
heard ack 3
> client 0 option 5 ""
> move 0
feed 0 16
take 0 option 5 out 0003e889045565a9000000058000000100000000
heard refused 5 2147483649
> client 0 structured
> move 0
feed 0 16
take 0 option 8 out 0003e889045565a9000000080000000100000000
heard ack 8
> client 0 set-meta "a" "base:allocation" "spindle:dirty"
> move 0
feed 0 61
take 0 option 10 out 0003e889045565a90000000a000000040000001300000001626173653a616c6c6f636174696f6e0003e889045565a90000000a0000000400000011000000037370696e646c653a64697274790003e889045565a90000000a0000000100000000
heard meta 1 "base:allocation"
heard meta 3 "spindle:dirty"
heard ack 10
> client 0 go "a" 3
> move 0
feed 0 25
take 0 option 7 out 0003e889045565a900000007000000030000000c000000000000000010000ded0003e889045565a900000007000000030000000e00030000000100000200000010000003e889045565a9000000070000000100000000
heard info 0 4096 3565 "" 0 0 0 ""
heard info 3 0 0 "" 1 512 4096 ""
heard ack 7
heard start 4096 3565
> client 0 request 1 0 512 3 "abc"
cookie 1
> client 0 request 0 0 511 3
cookie 2
> client 0 request 7 0 0 4096
cookie 3
> move 0
feed 0 87
take 0 request 1 1 0 1 512 3
run 0 1 code 0
send 0 1 out 67446698000000000000000000000001
take 0 request 2 0 0 2 511 3
run 0 2 code 0
send 0 2 out 668e33ef0000000200000000000000020000000c00000000000001ff00000001668e33ef0001000100000000000000020000000a00000000000002006162
take 0 request 3 7 0 3 0 4096
run 0 3 code 0
send 0 3 out 668e33ef0000000500000000000000030000001c000000010000020000000003000002000000000000000c0000000003668e33ef0001000500000000000000030000001c000000030000020000000000000002000000000100000c0000000000
heard done 1 0 ""
heard done 2 0 "\x00ab"
heard done 3 0 "" 1:512/3:512/0:3072/3 3:512/0:512/1:3072/0
> clear 0
clear 1
> client 1 open
open 1 out 4e42444d4147494349484156454f50540003
heard greeting 3
> client 1 flags 2
> client 1 export "p"
> move 1
feed 1 21
take 1 flags
take 1 option 1 out 00000000000008000c6d
heard start 2048 3181
> client 1 request 1 1 0 1 "z"
cookie 1
> client 1 request 0 0 0 2
cookie 2
> client 1 request 3 0 0 0
cookie 3
> move 1
feed 1 85
take 1 request 1 1 1 1 0 1
run 1 1 code 0
send 1 1 out 67446698000000000000000000000001
take 1 request 2 0 0 2 0 2
run 1 2 code 0
send 1 2 out 674466980000000000000000000000027a00
take 1 request 3 3 0 3 0 0
run 1 3 code 0
send 1 3 out 67446698000000000000000000000003
heard done 1 0 ""
heard done 2 0 "z\x00"
heard done 3 0 ""
> client 2 open
open 2 out 4e42444d4147494349484156454f50540003
heard greeting 3
> client 2 flags 3
> client 2 info "r" 1 2 3
> move 2
feed 2 33
take 2 flags
take 2 option 6 out 0003e889045565a900000006000000030000000c00000000000000000400051f0003e889045565a90000000600000003000000030001720003e889045565a9000000060000000300000017000272656164206f6e6c792c20726f746174696f6e616c0003e889045565a900000006000000030000000e00030000020000000400000010000003e889045565a9000000060000000100000000
heard info 0 1024 1311 "" 0 0 0 ""
heard info 1 0 0 "r" 0 0 0 ""
heard info 2 0 0 "read only, rotational" 0 0 0 ""
heard info 3 0 0 "" 512 1024 4096 ""
heard ack 6
> client 2 export "nothing"
> move 2
feed 2 23
take 2 end 1
run error 154
up
export 0 4096 6bf70c1d
export 1 2048 a489834f
export 2 1024 eeaede7c
queue 0
`)
}
