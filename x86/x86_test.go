package x86

import (
	"strings"
	"testing"

	"spokeshave/api"
)

// lines makes a program of instructions, of which main is the first.
func lines(ins ...string) string {
	var b strings.Builder
	b.WriteString("main:\n")
	for _, i := range ins {
		if strings.HasSuffix(i, ":") || strings.HasPrefix(i, ".") {
			b.WriteString(i + "\n")
			continue
		}
		b.WriteString("\t" + strings.Replace(i, " ", "\t", 1) + "\n")
	}
	return b.String()
}

func TestRead(t *testing.T) { // P23.1
	for _, i := range []string{
		"movq $1, %rax", "movq $-2147483648, %rax", "movq %rax, %r15", "movq 8(%rsp), %rax", "movq (%rax,%rbx,8), %rax", "movq -8(%rsp,%rbp,1), %rcx", "movq $5, (%rax)", "movq %r8, -16(%r9)", "movabsq $-9223372036854775808, %r10", "movabsq $1, %rax", "movb %al, (%rax)", "movb %sil, (%rax)", "movb %r9b, (%rax)", "movw %bx, (%rax)", "movw %r10w, (%rax)",
		"movl %ecx, (%rax)", "movl %r11d, (%rax)", "movl (%rax), %edx", "movl %eax, %r8d", "movsbq (%rax), %rbx", "movsbq %bpl, %rbx", "movswq %sp, %rbx", "movslq %edi, %rbx", "movzbq %r15b, %rbx", "movzwq 2(%rax), %rbx", "leaq 8(%rsp), %rax", "leaq main(%rip), %rax", "leaq v(%rip), %rax", "leaq v+9(%rip), %rax", "movq v+8(%rip), %rax", "movq %rax, v(%rip)",
		"addq $1, %rax", "subq %rbx, %rax", "imulq (%rax), %rax", "andq $-1, %rax", "orq %rax, %rax", "xorq v(%rip), %rax", "cmpq $1, %rax", "cmpq (%rbx), %rax", "testq %rax, %rbx", "negq %rax", "notq %rax", "shlq $0, %rax", "sarq $63, %rax", "shrq %cl, %rax", "cqto", "idivq %rbx", "divq %rbx", "sete %al", "setae %r15b", "setbe %dil",
		"jmp main", "jmp *%rax", "je main", "jne main", "jl main", "jle main", "jg main", "jge main", "jb main", "jbe main", "ja main", "jae main", "call main", "call *%rbx", "ret", "pushq %rax", "popq %rsp", "sysin", "sysout", "sysexit", "sysover", "l.x_9:", ".data w 65536", ".quad v 0 -5", ".byte v 15 255", ".addr v 8 main", ".Lx:",
	} {
		s := ".data v 16\n" + lines(i)
		c, w := Read(s)
		if w.Code != api.OK || c.Print() != s {
			t.Errorf("P23.1: %s: %v", i, w)
		}
	}
	for _, i := range []string{
		"movq $2147483648, %rax", "movq $01, %rax", "movq $-0, %rax", "movq $+1, %rax", "movq $, %rax", "movq 0(%rsp), %rax", "movq (%rax), (%rbx)", "movq (%rax,%rsp,8), %rax", "movq (%rax,%rbx,3), %rax", "movq (%rax,%rbx), %rax", "movq (%rax, %rbx, 8), %rax", "movq %rax,%rbx", "movq %rax", "movq %rax, $1", "movq $1, %eax", "movq %rax, %xmm0", "movq %r16, %rax", "movq %rax, main(%rip)",
		"movabsq $9223372036854775808, %rax", "movabsq %rax, %rbx", "movabsq $1, (%rax)", "movb %rax, (%rax)", "movb %al, %bl", "movb (%rax), %al", "movw %eax, (%rax)", "movl %rax, (%rax)", "movl $1, %eax", "movsbq %ax, %rbx", "movsbq (%rax), %ebx", "movzlq (%rax), %rbx", "leaq %rax, %rbx", "leaq main+1(%rip), %rax", "leaq nowhere(%rip), %rax", "leaq v+0(%rip), %rax", "movq v+2147483648(%rip), %rax",
		"addq %rax, (%rbx)", "testq $1, %rax", "testq (%rax), %rax", "negq (%rax)", "shlq $64, %rax", "shlq $-1, %rax", "shlq %al, %rax", "shlq %rcx, %rax", "cqto %rax", "idivq (%rax)", "sete %rax", "setz %al", "jmp nowhere", "jmp %rax", "jmp v", "jz main", "je *%rax", "call v", "call %rax", "ret ", "pushq $1", "nop", "syscall", "jmp", "addq $1", "9l:", "a b:", ":", "main:", "v:", strings.Repeat("n", 61) + ":",
		".data w 0", ".data w 65537", ".data w", ".data v 8", ".data main 8", ".quad v 9 1", ".quad v -1 1", ".quad v 0 9223372036854775808", ".quad u 0 1", ".byte v 16 1", ".byte v 0 256", ".byte v 0 -1", ".addr v 0 nowhere", ".addr v 0 v", ".addr v 9 main", ".text", ".data  w 8", ".data w 8 ", ".quad v 0", ".zero v 0 1", "",
	} {
		s := ".data v 16\n" + lines(i, "ret", "bad")
		c, w := Read(s)
		if want := len(".data v 16\nmain:\n"); w != (api.Wrong{Code: api.ErrForm, At: want}) || c != nil {
			t.Errorf("P23.1: %q: %v", i, w)
		}
	}
	for s, want := range map[string]api.Wrong{
		"": {Code: api.ErrMain}, "l:\n": {Code: api.ErrMain, At: 3}, "main:": {Code: api.ErrForm}, "main:\n\tret": {Code: api.ErrForm, At: 6}, "\tjmp\tl\nmain:\nbad\nl:\n": {Code: api.ErrForm, At: 13}, "\tjmp\tl\nmain:\nl :\n": {Code: api.ErrForm}, ".quad v 0 1\nmain:\n.data v 8\n": {}, "main:\n\n": {Code: api.ErrForm, At: 6}, "main:\n ret\n": {Code: api.ErrForm, At: 6},
		".data main 8\n": {Code: api.ErrMain, At: 13}, ".addr v 0 v\n.data v 8\nmain:\n": {Code: api.ErrForm}, "main:\r\n": {Code: api.ErrForm},
	} {
		if c, w := Read(s); w != want || (c == nil) != (w.Code != api.OK) {
			t.Errorf("P23.1: %q: %v", s, w)
		}
	}
}

// run is what a program comes to.
func run(t *testing.T, fuel int, stack int, ins ...string) api.Outcome {
	t.Helper()
	c, w := Read(lines(ins...))
	if w.Code != api.OK {
		t.Fatalf("%v of %q", w, lines(ins...))
	}
	return c.Run([]byte("xy"), fuel, stack)
}

func TestRun(t *testing.T) { // P23.2
	for prog, want := range map[string]int{
		"movq $300, %rax;ret": 44, "movabsq $-1, %rdi;sysexit": 255, "movq $5, %rax;negq %rax;notq %rax;ret": 4, "movq $7, %rbx;movq %rbx, %rax;imulq %rbx, %rax;subq $9, %rax;ret": 40, "movq $12, %rax;andq $10, %rax;orq $1, %rax;xorq $3, %rax;ret": 10,
		"movq $-7, %rax;cqto;movq $2, %rbx;idivq %rbx;subq %rdx, %rax;ret": 254, "movq $-1, %rax;movq $10, %rbx;divq %rbx;movq %rdx, %rax;ret": 5, "movq $1, %rax;movq $70, %rcx;shlq %cl, %rax;ret": 64, "movq $-8, %rax;sarq $1, %rax;ret": 252, "movq $-1, %rax;shrq $62, %rax;ret": 3,
		".data v 16;.quad v 8 -2;.byte v 8 7;movzbq v+8(%rip), %rax;movsbq v+9(%rip), %rbx;addq %rbx, %rax;ret": 6, ".data v 16;leaq v(%rip), %rbx;movq $300, 8(%rbx);movl 8(%rbx), %eax;movq $4, %rcx;movzwq (%rbx,%rcx,2), %rax;ret": 44, ".data u 1;.data v 8;leaq u(%rip), %rax;leaq v(%rip), %rbx;subq %rax, %rbx;movq %rbx, %rax;ret": 16,
		"movq $-1, %rax;movl %eax, %ebx;shrq $31, %rbx;movq %rbx, %rax;ret": 1, "movq $-1, %rbx;movb %bl, -16(%rsp);movw %bx, -12(%rsp);movl %ebx, -8(%rsp);movslq -8(%rsp), %rax;movzbq -15(%rsp), %rcx;addq %rcx, %rax;ret": 255, "movq $200, %rax;movsbq %al, %rax;ret": 200, "movq $2, %rax;cmpq $3, %rax;setl %al;ret": 1, "movq $-1, %rax;cmpq $3, %rax;setb %bl;seta %cl;movq %rbx, %rax;addq %rcx, %rax;ret": 1, "movq $511, %rax;testq %rax, %rax;sete %al;shrq $8, %rax;ret": 1,
		"movq $3, %rbx;l:;addq %rbx, %rax;subq $1, %rbx;cmpq $0, %rbx;jg l;ret": 6, "call f;addq $1, %rax;ret;f:;movq $8, %rax;ret": 9, "leaq f(%rip), %rbx;call *%rbx;ret;f:;movq $7, %rax;ret": 7, "leaq f(%rip), %rbx;jmp *%rbx;sysover;f:;movq $6, %rax;ret": 6, ".data v 8;.addr v 0 f;movq v(%rip), %rbx;jmp *%rbx;f:;movq $5, %rax;ret": 5, "movq $4, %rbx;pushq %rbx;popq %rax;ret": 4,
		"sysin;movq %rax, %rdi;sysin;sysin;addq %rdi, %rax;ret": 119, "movq %rsp, %rax;subq %r15, %rax;ret": 248, "movq $65, %rdi;sysout;movq $322, %rdi;sysout;ret": 0, "leaq f(%rip), %rax;leaq main(%rip), %rbx;subq %rbx, %rax;ret;f:": 4, "jmp l;sysover;l:;jmp m;m:;ret": 0, "pushq %rsp;popq %rax;subq %rsp, %rax;ret": 0,
	} {
		got := run(t, 100, 4096, strings.Split(prog, ";")...)
		if got.Kind != api.Exited || got.Code != want {
			t.Errorf("P23.2: %s: %v", prog, got)
		}
	}
	if got := run(t, 100, 4096, "movq $65, %rdi", "sysout", "movq $322, %rdi", "sysout", "sysover"); got.Kind != api.Overflow || string(got.Out) != "AB" || got.Code != 0 {
		t.Errorf("P23.2: %v", got)
	}
}

func TestFaults(t *testing.T) { // P23.2
	for _, prog := range []string{
		"sete %al;ret", "je main;ret", "movq (%rax), %rbx;ret", ".data v 9;movq v+2(%rip), %rax;ret", ".data v 9;.data u 8;leaq v(%rip), %rax;movq 9(%rax), %rbx;ret", "movq 8(%rsp), %rax;ret", "movq 1(%rsp), %rax;ret", "movq $1, -4104(%rsp);ret", "movq $1, %rax;jmp *%rax", "movq $1, %rax;call *%rax", "pushq %r15;ret", "idivq %rbx;ret", "movq $1, %rdx;movq $1, %rbx;idivq %rbx;ret",
		"movq $1, %rdx;movq $1, %rbx;divq %rbx;ret", "movabsq $-9223372036854775808, %rax;cqto;movq $-1, %rbx;idivq %rbx;ret", "movq $1, %rax", "jmp l;l:", "popq %rax;popq %rax", "movq %r15, %rsp;pushq %rax;ret", "movq $0, %rsp;call main", "popq %rbx;popq %rbx;ret", "leaq l(%rip), %rax;jmp *%rax;l:",
	} {
		if got := run(t, 100, 4096, strings.Split(prog, ";")...); got.Kind != api.Faulted || got.Code != 0 {
			t.Errorf("P23.2: %s: %v", prog, got)
		}
	}
}

func TestFuel(t *testing.T) { // P23.2
	prog := []string{"movq $1, %rax", "jmp l", "l:", "ret"}
	for k, c := range []struct{ fuel, stack, kind int }{
		{3, 4096, api.Exited}, {2, 4096, api.OutOfFuel}, {0, 4096, api.OutOfFuel}, {-1, 4096, api.Invalid}, {16 * api.MaxFuel, 4096, api.Exited}, {16*api.MaxFuel + 1, 4096, api.Invalid}, {9, 16, api.Exited}, {9, 0, api.Invalid}, {9, 24, api.Invalid}, {9, api.MaxStack, api.Exited}, {9, api.MaxStack + 16, api.Invalid}, {9, -16, api.Invalid},
	} {
		if got := run(t, c.fuel, c.stack, prog...); got.Kind != c.kind {
			t.Errorf("P23.2: the %d-th: %v", k, got)
		}
	}
	c, _ := Read(lines(prog...))
	if c.Run(make([]byte, api.MaxInput+1), 9, 16).Kind != api.Invalid || c.Run(make([]byte, api.MaxInput), 9, 16).Kind != api.Exited || c.Len() != 3 {
		t.Error("P23.2: input")
	}
	if run(t, 1, 16, "movq $1, %rax").Kind != api.OutOfFuel || run(t, 2, 16, "movq $1, %rax").Kind != api.Faulted {
		t.Error("P23.2: coming to the end is one more step")
	}
}

func TestDeepest(t *testing.T) { // P23.2
	for prog, want := range map[string]int{
		"ret": 8, "call f;ret;f:;pushq %rax;popq %rax;ret": 24, "subq $1000, %rsp;addq $1000, %rsp;ret": 1008, "movq $0, %rsp;pushq %rax;ret": api.StackTop + 8, "movq $16, %rsp;movq $-1, %rsp;ret": api.StackTop + 1, "popq %rax;sysover": 8, "movabsq $-9223372036854775808, %rsp;ret": -9223372036854775808 + api.StackTop,
	} {
		c, w := Read(lines(strings.Split(prog, ";")...))
		if w.Code != api.OK {
			t.Fatal(w)
		}
		if got := c.Deepest(nil, 100); got != want {
			t.Errorf("P23.2: %s: %d", prog, got)
		}
	}
	c, _ := Read(lines("ret"))
	var none *Code
	if c.Deepest(nil, -1) != 0 || none.Deepest(nil, 9) != 0 || none.Len() != 0 || none.Print() != "" || none.Run(nil, 9, 16).Kind != api.Invalid {
		t.Error("P23.2, R3: nothing to run")
	}
}
