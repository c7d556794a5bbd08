namespace Go.Proofs.YtpkobgnbjmefnabDoor.Crc
def poly : Nat := 2197175160
def step (c : Nat) : Nat := (c / 2) ^^^ (c % 2 * poly)
def stepN : Nat → Nat → Nat
  | 0, c => c
  | n + 1, c => stepN n (step c)
theorem xor_mod2 (a b : Nat) : (a ^^^ b) % 2 = (a % 2) ^^^ (b % 2) := by
  have := Nat.xor_mod_two_pow (a := a) (b := b) (n := 1)
  simpa using this
theorem xor_div2 (a b : Nat) : (a ^^^ b) / 2 = (a / 2) ^^^ (b / 2) := by
  have := Nat.shiftRight_xor_distrib (a := a) (b := b) (i := 1)
  simpa [Nat.shiftRight_succ] using this
theorem xor4 (a b c d : Nat) : (a ^^^ b) ^^^ (c ^^^ d) = (a ^^^ c) ^^^ (b ^^^ d) := by
  rw [Nat.xor_assoc, ← Nat.xor_assoc b c d, Nat.xor_comm b c, Nat.xor_assoc c b d, ← Nat.xor_assoc]
theorem step_xor (a b : Nat) : step (a ^^^ b) = step a ^^^ step b := by
  unfold step
  rw [xor_div2, xor_mod2, xor4]
  congr 1
  rcases Nat.mod_two_eq_zero_or_one a with h | h <;> rcases Nat.mod_two_eq_zero_or_one b with h' | h' <;> simp [h, h']
theorem stepN_xor (n a b : Nat) : stepN n (a ^^^ b) = stepN n a ^^^ stepN n b := by
  induction n generalizing a b with
  | zero => rfl
  | succ n ih => simp only [stepN]; rw [step_xor, ih]
theorem stepN_add (m n c : Nat) : stepN (m + n) c = stepN n (stepN m c) := by
  induction m generalizing c with
  | zero => simp [stepN]
  | succ m ih => rw [Nat.succ_add]; simp only [stepN]; exact ih _
theorem stepN_shift (n v : Nat) : stepN n (v * 2 ^ n) = v := by
  induction n with
  | zero => simp [stepN]
  | succ n ih =>
    simp only [stepN]
    have h : step (v * 2 ^ (n + 1)) = v * 2 ^ n := by
      unfold step
      have e : v * 2 ^ (n + 1) = 2 * (v * 2 ^ n) := by rw [Nat.pow_succ, ← Nat.mul_assoc]; omega
      rw [e, Nat.mul_mod_right, Nat.mul_div_cancel_left _ (by decide)]; simp
    rw [h, ih]
theorem step_lt (c : Nat) (h : c < 4294967296) : step c < 4294967296 := by
  unfold step
  have h1 : c / 2 < 2 ^ 32 := by omega
  have h2 : c % 2 * poly < 2 ^ 32 := by
    rcases Nat.mod_two_eq_zero_or_one c with h | h <;> rw [h] <;> decide
  exact Nat.xor_lt_two_pow h1 h2
theorem stepN_lt (n c : Nat) (h : c < 4294967296) : stepN n c < 4294967296 := by
  induction n generalizing c with
  | zero => exact h
  | succ n ih => exact ih _ (step_lt c h)
theorem step_zero_iff (c : Nat) (h : c < 4294967296) (hz : step c = 0) : c = 0 := by
  unfold step at hz
  have hz' : c / 2 = c % 2 * poly := by
    have := congrArg (fun x => x ^^^ (c % 2 * poly)) hz
    simpa [Nat.xor_assoc] using this
  rcases Nat.mod_two_eq_zero_or_one c with h' | h' <;> rw [h'] at hz'
  · omega
  · unfold poly at hz'; omega
theorem stepN_zero_iff (n c : Nat) (h : c < 4294967296) : stepN n c = 0 ↔ c = 0 := by
  induction n generalizing c with
  | zero => rfl
  | succ n ih =>
    simp only [stepN]
    rw [ih _ (step_lt c h)]
    constructor
    · exact step_zero_iff c h
    · rintro rfl; decide
/-- the register behind a byte -/
def crcL (c : Nat) (l : List Nat) : Nat := l.foldl (fun c b => stepN 8 (c ^^^ b)) c
def val : List Nat → Nat
  | [] => 0
  | b :: l => b + 256 * val l
theorem join_xor (b v : Nat) (hb : b < 256) : b + 256 * v = b ^^^ (v * 2 ^ 8) := by
  have : v * 2 ^ 8 ^^^ b = v * 2 ^ 8 + b := by
    have := Nat.two_pow_add_eq_or_of_lt (i := 8) (b := b) (by omega) v
    rw [Nat.mul_comm v, this]
    apply Nat.eq_of_testBit_eq
    intro i
    rw [Nat.testBit_xor, Nat.testBit_or, Nat.testBit_two_pow_mul]
    by_cases hi : i < 8
    · have : ¬ 8 ≤ i := by omega
      simp [this]
    · have : b.testBit i = false := Nat.testBit_lt_two_pow (Nat.lt_of_lt_of_le hb (Nat.pow_le_pow_right (n := 2) (by decide) (by omega : 8 ≤ i)))
      simp [this]
  rw [Nat.xor_comm, this]; omega
theorem crcL_val (l : List Nat) (c : Nat) (h : ∀ x ∈ l, x < 256) : crcL c l = stepN (8 * l.length) (c ^^^ val l) := by
  induction l generalizing c with
  | nil => simp [crcL, val, stepN]
  | cons b l ih =>
    have hb := h b (by simp)
    have ih' := ih (stepN 8 (c ^^^ b)) (fun x hx => h x (by simp [hx]))
    have e : crcL c (b :: l) = crcL (stepN 8 (c ^^^ b)) l := rfl
    rw [e, ih', List.length_cons, show 8 * (l.length + 1) = 8 + 8 * l.length from by omega, stepN_add]
    congr 1
    simp only [val]
    rw [join_xor b (val l) hb, ← Nat.xor_assoc, stepN_xor 8 (c ^^^ b), stepN_shift]
theorem val_inj (l m : List Nat) (hlen : l.length = m.length) (hl : ∀ x ∈ l, x < 256) (hm : ∀ x ∈ m, x < 256) (h : val l = val m) : l = m := by
  induction l generalizing m with
  | nil => cases m with
    | nil => rfl
    | cons => simp at hlen
  | cons a l ih =>
    cases m with
    | nil => simp at hlen
    | cons b m =>
      simp only [val] at h
      have ha := hl a (by simp); have hb := hm b (by simp)
      have e1 : a = b := by omega
      have e2 : val l = val m := by omega
      rw [e1, ih m (by simpa using hlen) (fun x hx => hl x (by simp [hx])) (fun x hx => hm x (by simp [hx])) e2]
theorem val_set (l : List Nat) (k r : Nat) (hk : k < l.length) (hr : r < 8) (hl : ∀ x ∈ l, x < 256) :
    val (l.set k (l[k] ^^^ 2 ^ r)) = val l ^^^ 2 ^ (8 * k + r) := by
  induction l generalizing k with
  | nil => simp at hk
  | cons b l ih =>
    have hb := hl b (by simp)
    have p8 : (2 : Nat) ^ r < 2 ^ 8 := Nat.pow_lt_pow_right (by decide) hr
    cases k with
    | zero =>
      simp only [List.set_cons_zero, List.getElem_cons_zero, val]
      have hx : b ^^^ 2 ^ r < 256 := Nat.xor_lt_two_pow (n := 8) hb p8
      rw [join_xor _ _ hx, join_xor _ _ hb, Nat.mul_zero, Nat.zero_add, Nat.xor_assoc, Nat.xor_assoc, Nat.xor_comm (2 ^ r)]
    | succ k =>
      simp only [List.set_cons_succ, List.getElem_cons_succ, val]
      rw [ih k (by simpa using hk) (fun x hx => hl x (by simp [hx])), join_xor _ _ hb, join_xor _ _ hb, Nat.xor_assoc]
      congr 1
      rw [← Nat.shiftLeft_eq, ← Nat.shiftLeft_eq, Nat.shiftLeft_xor_distrib]
      congr 1
      rw [Nat.shiftLeft_eq, ← Nat.pow_add]; congr 1; omega
theorem set_lt (l : List Nat) (k r : Nat) (hk : k < l.length) (hr : r < 8) (hl : ∀ x ∈ l, x < 256) : ∀ x ∈ l.set k (l[k] ^^^ 2 ^ r), x < 256 := by
  intro x hx
  rcases List.mem_or_eq_of_mem_set hx with h | h
  · exact hl x h
  · rw [h]; exact Nat.xor_lt_two_pow (n := 8) (hl _ (List.getElem_mem hk)) (Nat.pow_lt_pow_right (by decide) hr)
/-- the two sums are one just if nothing was turned -/
theorem burst (b c : List Nat) (at_ t m : Nat) (hlen : c.length = b.length) (hb : ∀ x ∈ b, x < 256) (hc : ∀ x ∈ c, x < 256)
    (ht : at_ + t = 8 * b.length) (hm : m < 4294967296) (hv : val c = val b ^^^ (m * 2 ^ at_)) (i : Nat) :
    crcL i b = crcL i c ↔ b = c := by
  constructor
  · intro h
    rw [crcL_val b i hb, crcL_val c i hc, hlen, hv, ← Nat.xor_assoc, stepN_xor _ (i ^^^ val b)] at h
    have hz : stepN (8 * b.length) (m * 2 ^ at_) = 0 := by
      have := congrArg (fun x => stepN (8 * b.length) (i ^^^ val b) ^^^ x) h
      simp only [Nat.xor_self, ← Nat.xor_assoc, Nat.zero_xor] at this
      exact this.symm
    rw [← ht, stepN_add, stepN_shift, stepN_zero_iff _ _ hm] at hz
    subst hz
    simp at hv
    exact val_inj b c hlen.symm hb hc hv.symm
  · rintro rfl; rfl
/-- one round of the turning: bit i of the mask -/
theorem mask_succ (mask i at_ : Nat) : (mask % 2 ^ (i + 1)) * 2 ^ at_ = (mask % 2 ^ i) * 2 ^ at_ ^^^ ((mask / 2 ^ i % 2) * 2 ^ (at_ + i)) := by
  have h : mask % 2 ^ (i + 1) = (mask % 2 ^ i) ^^^ ((mask / 2 ^ i % 2) * 2 ^ i) := by
    apply Nat.eq_of_testBit_eq
    intro j
    rw [Nat.testBit_xor, Nat.testBit_mod_two_pow, Nat.testBit_mod_two_pow, Nat.mul_comm, Nat.testBit_two_pow_mul]
    by_cases h1 : j < i
    · simp [h1, Nat.lt_succ_of_lt h1, Nat.not_le.2 h1]
    · by_cases h2 : j = i
      · subst h2
        simp [Nat.testBit_eq_decide_div_mod_eq]
      · have h3 : i ≤ j := by omega
        have h4 : ¬ j < i + 1 := by omega
        simp only [h4, decide_false, Bool.false_and, h1, h3, decide_true, Bool.true_and, Bool.false_bne]
        obtain ⟨d, hd⟩ : ∃ d, j - i = d + 1 := ⟨j - i - 1, by omega⟩
        rw [hd]
        rcases Nat.mod_two_eq_zero_or_one (mask / 2 ^ i) with h | h <;> rw [h] <;> simp [Nat.testBit_succ]
  rw [h, ← Nat.shiftLeft_eq, ← Nat.shiftLeft_eq, Nat.shiftLeft_xor_distrib]
  rw [Nat.shiftLeft_eq, Nat.shiftLeft_eq, Nat.shiftLeft_eq, Nat.mul_assoc, ← Nat.pow_add, Nat.add_comm i]
end Go.Proofs.YtpkobgnbjmefnabDoor.Crc
