import PyProof.Rows.All
import KE.OsGo
import KE.OsArgs
import PySem.Challenge.RW_widewhole_s01_op
set_option Elab.async false
namespace My
open PySem
theorem p127 : (2:Int) ^ 127 = 170141183460469231731687303715884105728 := by decide
theorem p127n : (2:Nat) ^ 127 = 170141183460469231731687303715884105728 := by decide
theorem W_lit : Sf02.W = 340282366920938463463374607431768211456 := by decide
/- bytes, the lowest first -/
def by8 (z : Int) (n : Nat) : List Int := (List.range n).map fun (k : Nat) => z / 256 ^ k % 256
theorem told_le (n k : Nat) : Sf02Neutral.bytesTold (Sf02.le k n) = by8 (n : Int) k := by
  unfold Sf02Neutral.bytesTold Sf02.le by8
  rw [List.map_map]
  apply List.map_congr_left
  intro i _
  show ((UInt8.ofNat (n / 256 ^ i % 256)).toNat : Int) = _
  have e : (UInt8.ofNat (n / 256 ^ i % 256)).toNat = n / 256 ^ i % 256 := by
    rw [UInt8.toNat_ofNat']; exact Nat.mod_mod _ _
  rw [e]; simp
theorem pmod (z : Int) {p m : Int} (hp : 0 < p) (hm : 0 < m) : (z % (p * m)) / p = z / p % m := by
  have hne : p ≠ 0 := by omega
  have e : z = z % (p * m) + p * (m * (z / (p * m))) := by
    have := Int.emod_add_mul_ediv z (p * m)
    rw [Int.mul_assoc] at this; omega
  have e2 : z / p = (z % (p * m)) / p + m * (z / (p * m)) := by
    conv => lhs; rw [e]
    rw [Int.add_mul_ediv_left _ _ hne]
  have h0 : 0 ≤ z % (p * m) := Int.emod_nonneg _ (by have := Int.mul_pos hp hm; omega)
  have h1 : z % (p * m) < p * m := Int.emod_lt_of_pos _ (Int.mul_pos hp hm)
  rw [e2, Int.add_mul_emod_self_left, Int.emod_eq_of_lt (Int.ediv_nonneg h0 (by omega)) (Int.ediv_lt_of_lt_mul hp (by rw [Int.mul_comm m p]; exact h1))]
theorem by8_mod (z : Int) (n : Nat) : by8 (z % 256 ^ n) n = by8 z n := by
  unfold by8
  apply List.map_congr_left
  intro k hk
  have hk' : k < n := List.mem_range.mp hk
  have e : (256:Int) ^ n = 256 ^ k * 256 ^ (n - k) := by rw [← Int.pow_add]; congr 1; omega
  have e3 : (256:Int) ^ (n - k) = 256 * 256 ^ (n - k - 1) := by
    have : n - k = (n - k - 1) + 1 := by omega
    conv => lhs; rw [this, Int.pow_succ]
    rw [Int.mul_comm]
  rw [e, pmod z (Int.pow_pos (by decide)) (Int.pow_pos (by decide)), e3, Int.emod_emod_of_dvd _ ⟨_, rfl⟩]
theorem told_bits (z : Int) : Sf02Neutral.bytesTold (Sf02.le 16 (Sf02.bits z)) = by8 z 16 := by
  rw [told_le]
  have e : ((Sf02.bits z : Nat) : Int) = z % 256 ^ 16 := by
    unfold Sf02.bits
    rw [W_lit]
    have : (256:Int) ^ 16 = 340282366920938463463374607431768211456 := by decide
    rw [this]; omega
  rw [e, by8_mod]
theorem by8_congr {z y : Int} {n : Nat} (h : z % 256 ^ n = y % 256 ^ n) : by8 z n = by8 y n := by
  rw [← by8_mod z, h, by8_mod]

def sgn (x : Int) : Int := if 170141183460469231731687303715884105728 ≤ x then x - 340282366920938463463374607431768211456 else x
def fitS (x : Int) : Bool := decide (-170141183460469231731687303715884105728 ≤ x) && decide (x < 170141183460469231731687303715884105728)
def fitP (x : Int) : Bool := decide (0 ≤ x) && decide (x < 340282366920938463463374607431768211456)
theorem mod_W {x : Int} (h0 : 0 ≤ x) (h1 : x ≤ 340282366920938463463374607431768211455) : x.toNat % Sf02.W = x.toNat := by
  rw [W_lit]; omega
theorem mod_Wi {x : Int} (h0 : 0 ≤ x) (h1 : x ≤ 340282366920938463463374607431768211455) : (((x.toNat % Sf02.W : Nat)) : Int) = x := by
  rw [W_lit]; omega
theorem signed_eq {x : Int} (h0 : 0 ≤ x) (h1 : x ≤ 340282366920938463463374607431768211455) : Sf02.signed x.toNat = sgn x := by
  have e := mod_Wi h0 h1
  unfold Sf02.signed sgn
  rw [e, p127n]
  rw [W_lit] at *
  split <;> split <;> omega
theorem fits_S (z : Int) : Sf02.fits false z = fitS z := by
  unfold Sf02.fits fitS
  rw [p127]; rfl
theorem fits_P (z : Int) : Sf02.fits true z = fitP z := by
  unfold Sf02.fits fitP
  rw [W_lit]; rfl
end My
namespace My
open PySem
def qtz (x y : Int) : Int := if (decide (x < 0)) = (decide (y < 0)) then (if x < 0 then -x else x).fdiv (if y < 0 then -y else y) else -((if x < 0 then -x else x).fdiv (if y < 0 then -y else y))
def sres (o x y : Int) : Int := if o = 0 then x + y else if o = 1 then x - y else if o = 2 then x * y else if o = 6 then qtz x y else if o = 7 then x - y * qtz x y else if o = 8 then x.fdiv y else x.fmod y
def pres (o a b : Int) : Int := if o = 3 then a + b else if o = 4 then a - b else if o = 5 then a * b else if o = 10 then a.fdiv b else a.fmod b
def trn (a d : Int) : Int := Builtin.bitOr (a * 2 ^ d.toNat) (a.fdiv (2 ^ (128 - d).toNat))
def bres (o a b : Int) : Int := if o = 12 then Builtin.bitAnd a b else if o = 13 then Builtin.bitOr a b else if o = 14 then Builtin.bitXor a b else if o = 15 then a * 2 ^ (b % 128).toNat else if o = 16 then (sgn a).fdiv (2 ^ (b % 128).toNat) else if o = 17 then a.fdiv (2 ^ (b % 128).toNat) else trn a (b % 128)
theorem qtz_eq (x y : Int) : x.tdiv y = qtz x y := by
  unfold qtz
  by_cases hx : x < 0 <;> by_cases hy : y < 0
  · simp only [hx, hy, if_true, decide_true]
    rw [Int.fdiv_eq_ediv_of_nonneg _ (by omega)]
    have e : x.tdiv y = (-(-x)).tdiv (-(-y)) := by rw [Int.neg_neg, Int.neg_neg]
    rw [e, Int.neg_tdiv, Int.tdiv_neg, Int.neg_neg, Int.tdiv_eq_ediv_of_nonneg (by omega)]
  · simp only [hx, hy, if_true, if_false, decide_true, decide_false]
    rw [Int.fdiv_eq_ediv_of_nonneg _ (by omega)]
    have e : x.tdiv y = (-(-x)).tdiv y := by rw [Int.neg_neg]
    rw [e, Int.neg_tdiv, Int.tdiv_eq_ediv_of_nonneg (by omega)]
    simp
  · simp only [hx, hy, if_true, if_false, decide_true, decide_false]
    rw [Int.fdiv_eq_ediv_of_nonneg _ (by omega)]
    have e : x.tdiv y = x.tdiv (-(-y)) := by rw [Int.neg_neg]
    rw [e, Int.tdiv_neg, Int.tdiv_eq_ediv_of_nonneg (by omega)]
    simp
  · simp only [hx, hy, if_false, decide_false, if_true]
    rw [Int.fdiv_eq_ediv_of_nonneg _ (by omega), Int.tdiv_eq_ediv_of_nonneg (by omega)]
theorem nat_xor (m : Nat) : ∀ n : Nat, (m ^^^ n) + 2 * (m &&& n) = m + n :=
  Nat.strongRecOn m fun k hk j => by
    rcases Nat.eq_zero_or_pos k with z | z
    · subst z; simp
    · have half := hk (k / 2) (by omega) (j / 2)
      rw [← Nat.xor_div_two, ← Nat.and_div_two] at half
      have x1 : (k ^^^ j) % 2 = 1 ↔ _ := Nat.xor_mod_two_eq_one
      have n1 : (k &&& j) % 2 = 1 ↔ _ := Nat.and_mod_two_eq_one
      omega
theorem or_eq {a b : Int} (ha : 0 ≤ a) (hb : 0 ≤ b) : Builtin.bitOr a b = ((a.toNat ||| b.toNat : Nat) : Int) := by
  rw [PyProof.Rows.bitOr_and, PyProof.Rows.bitAnd_pp ha hb]
  have := PyProof.Rows.nat_or_add_and a.toNat b.toNat
  omega
theorem xor_eq {a b : Int} (ha : 0 ≤ a) (hb : 0 ≤ b) : Builtin.bitXor a b = ((a.toNat ^^^ b.toNat : Nat) : Int) := by
  unfold Builtin.bitXor
  rw [PyProof.Rows.bitOr_and, PyProof.Rows.bitAnd_pp ha hb]
  have := nat_xor a.toNat b.toNat
  omega
theorem trn_eq {a : Int} {k : Nat} (h0 : 0 ≤ a) (h1 : a ≤ 340282366920938463463374607431768211455) (hk : k ≤ 127) :
    by8 (trn a k) 16 = by8 (((a.toNat * 2 ^ k % Sf02.W + a.toNat / 2 ^ (128 - k) : Nat)) : Int) 16 := by
  apply by8_congr
  have hc : a.toNat / 2 ^ (128 - k) < 2 ^ k := by
    apply Nat.div_lt_of_lt_mul
    rw [← Nat.pow_add]
    have : 128 - k + k = 128 := by omega
    rw [this]
    have : (2:Nat)^128 = 340282366920938463463374607431768211456 := by decide
    omega
  have e : trn a k = ((a.toNat * 2 ^ k + a.toNat / 2 ^ (128 - k) : Nat) : Int) := by
    unfold trn
    have e1 : ((128:Int) - (k:Int)).toNat = 128 - k := by omega
    rw [e1, Int.toNat_natCast, Int.fdiv_eq_ediv_of_nonneg _ (Int.le_of_lt (Int.pow_pos (by decide)))]
    have ha : a = (a.toNat : Int) := by omega
    have e2 : a * 2 ^ k = ((a.toNat * 2 ^ k : Nat) : Int) := by
      conv => lhs; rw [ha]
      simp
    have e3 : a / 2 ^ (128 - k) = ((a.toNat / 2 ^ (128 - k) : Nat) : Int) := by
      conv => lhs; rw [ha]
      simp
    rw [e2, e3, or_eq (Int.natCast_nonneg _) (Int.natCast_nonneg _), Int.toNat_natCast, Int.toNat_natCast]
    have := Nat.shiftLeft_add_eq_or_of_lt hc a.toNat
    rw [Nat.shiftLeft_eq] at this
    rw [this]
  rw [e]
  have hW : (256:Int) ^ 16 = ((Sf02.W : Nat) : Int) := by decide
  rw [hW, ← Int.natCast_emod, ← Int.natCast_emod, Nat.mod_add_mod]

theorem op_open (o a b : Int) : PySf02.op o a b = Sf02Neutral.listOf (Sf02.spec (.op o a.toNat b.toNat)) := rfl
theorem spec_op (o : Int) (a b : Nat) : Sf02.spec (.op o a b) = (if Sf02.isOp o = false then Sf02.says (-2) else match Sf02.exact o a b with
    | none => Sf02.says (-1)
    | some z => ⟨if Sf02.mayMiss o = true ∧ Sf02.fits (Sf02.isPlain o) z = false then 1 else 0, [Sf02.le 16 (Sf02.bits z)]⟩) := rfl
theorem isOp_t {o : Int} (h0 : 0 ≤ o) (h1 : o ≤ 18) : ¬ Sf02.isOp o = false := by
  unfold Sf02.isOp; rw [decide_eq_true h0, decide_eq_true h1]; decide
theorem spec_some {o z : Int} {a b : Nat} (h0 : 0 ≤ o) (h1 : o ≤ 18) (hz : Sf02.exact o a b = some z) :
    Sf02Neutral.listOf (Sf02.spec (.op o a b)) = (if o ≤ 11 ∧ Sf02.fits (Sf02.isPlain o) z = false then 1 else 0) :: 16 :: by8 z 16 := by
  have hm : (Sf02.mayMiss o = true) = (o ≤ 11) := by unfold Sf02.mayMiss; rw [decide_eq_true_eq]
  rw [spec_op, if_neg (isOp_t h0 h1), hz]
  simp only [hm]
  show _ :: ((Sf02Neutral.listed (Sf02Neutral.bytesTold (Sf02.le 16 (Sf02.bits z)))) ++ []) = _
  rw [told_bits, List.append_nil]
  rfl
theorem spec_none {o : Int} {a b : Nat} (h0 : 0 ≤ o) (h1 : o ≤ 18) (hz : Sf02.exact o a b = none) :
    Sf02Neutral.listOf (Sf02.spec (.op o a b)) = [-1] := by
  rw [spec_op, if_neg (isOp_t h0 h1), hz]
  rfl
theorem op_other {o a b : Int} (h : o < 0 ∨ 18 < o) : PySf02.op o a b = [-2] := by
  have hi : Sf02.isOp o = false := by
    unfold Sf02.isOp
    rcases h with h | h
    · rw [decide_eq_false (by omega)]; rfl
    · rw [decide_eq_false (p := o ≤ 18) (by omega), Bool.and_false]
  rw [op_open, spec_op, if_pos hi]; rfl
theorem sgn_zero {b : Int} (b0 : 0 ≤ b) (b1 : b ≤ 340282366920938463463374607431768211455) (h : sgn b = 0) : b = 0 := by unfold sgn at h; split at h <;> omega
theorem op_zero {o a b : Int} (h0 : 6 ≤ o) (h1 : o ≤ 11) (hb : b = 0) : PySf02.op o a b = [-1] := by
  subst hb
  rw [op_open]
  apply spec_none (by omega) (by omega)
  unfold Sf02.exact
  rcases (by omega : o = 6 ∨ o = 7 ∨ o = 8 ∨ o = 9 ∨ o = 10 ∨ o = 11) with e | e | e | e | e | e <;> subst e <;> rfl
theorem first_eq {o : Int} {f : Bool} (h : o ≤ 11) : (if o ≤ 11 ∧ f = false then (1:Int) else 0) = if f = true then 0 else 1 := by
  cases f <;> simp [h]
section
variable {o a b : Int} (a0 : 0 ≤ a) (a1 : a ≤ 340282366920938463463374607431768211455) (b0 : 0 ≤ b) (b1 : b ≤ 340282366920938463463374607431768211455)
include a0 a1 b0 b1
theorem op_signed (ho : o = 0 ∨ o = 1 ∨ o = 2 ∨ o = 6 ∨ o = 7 ∨ o = 8 ∨ o = 9) (hb : b ≠ 0 ∨ o < 6) :
    PySf02.op o a b = (if fitS (sres o (sgn a) (sgn b)) = true then 0 else 1) :: 16 :: by8 (sres o (sgn a) (sgn b)) 16 := by
  rw [op_open]
  have hz : Sf02.exact o a.toNat b.toNat = some (sres o (sgn a) (sgn b)) := by
    unfold Sf02.exact
    simp only [signed_eq a0 a1, signed_eq b0 b1, mod_Wi a0 a1, mod_Wi b0 b1]
    have hs : b ≠ 0 → ¬ sgn b = 0 := fun h e => h (sgn_zero b0 b1 e)
    rcases ho with e | e | e | e | e | e | e <;> subst e
    · rfl
    · rfl
    · rfl
    all_goals (have hs := hs (by omega))
    · show (if sgn b = 0 then none else some ((sgn a).tdiv (sgn b))) = some (qtz (sgn a) (sgn b))
      rw [if_neg hs, qtz_eq]
    · show (if sgn b = 0 then none else some ((sgn a).tmod (sgn b))) = some (sgn a - sgn b * qtz (sgn a) (sgn b))
      rw [if_neg hs, Int.tmod_def, qtz_eq]
    · show (if sgn b = 0 then none else some ((sgn a).fdiv (sgn b))) = some ((sgn a).fdiv (sgn b))
      rw [if_neg hs]
    · show (if sgn b = 0 then none else some ((sgn a).fmod (sgn b))) = some ((sgn a).fmod (sgn b))
      rw [if_neg hs]
  have hp : Sf02.isPlain o = false := by rcases ho with e | e | e | e | e | e | e <;> subst e <;> rfl
  rw [spec_some (by omega) (by omega) hz, hp, fits_S, first_eq (by omega)]
theorem op_plain (ho : o = 3 ∨ o = 4 ∨ o = 5 ∨ o = 10 ∨ o = 11) (hb : b ≠ 0 ∨ o < 6) :
    PySf02.op o a b = (if fitP (pres o a b) = true then 0 else 1) :: 16 :: by8 (pres o a b) 16 := by
  rw [op_open]
  have hz : Sf02.exact o a.toNat b.toNat = some (pres o a b) := by
    unfold Sf02.exact
    simp only [signed_eq a0 a1, signed_eq b0 b1, mod_Wi a0 a1, mod_Wi b0 b1]
    rcases ho with e | e | e | e | e <;> subst e
    · rfl
    · rfl
    · rfl
    · show (if b = 0 then none else some (a / b)) = some (a.fdiv b)
      rw [if_neg (by omega), Int.fdiv_eq_ediv_of_nonneg _ b0]
    · show (if b = 0 then none else some (a % b)) = some (a.fmod b)
      rw [if_neg (by omega), Int.fmod_eq_emod_of_nonneg _ b0]
  have hp : Sf02.isPlain o = true := by rcases ho with e | e | e | e | e <;> subst e <;> rfl
  rw [spec_some (by omega) (by omega) hz, hp, fits_P, first_eq (by omega)]
theorem op_bits (h0 : 12 ≤ o) (h1 : o ≤ 18) : PySf02.op o a b = 0 :: 16 :: by8 (bres o a b) 16 := by
  rw [op_open]
  have hk : (b % 128).toNat = b.toNat % 128 := by omega
  have key : ∃ z, Sf02.exact o a.toNat b.toNat = some z ∧ by8 z 16 = by8 (bres o a b) 16 := by
    unfold Sf02.exact
    simp only [signed_eq a0 a1, signed_eq b0 b1, mod_W a0 a1, mod_W b0 b1, Int.toNat_of_nonneg a0]
    rcases (by omega : o = 12 ∨ o = 13 ∨ o = 14 ∨ o = 15 ∨ o = 16 ∨ o = 17 ∨ o = 18) with e | e | e | e | e | e | e <;> subst e
    · exact ⟨_, rfl, congrArg (by8 · 16) (PyProof.Rows.bitAnd_pp a0 b0).symm⟩
    · exact ⟨_, rfl, congrArg (by8 · 16) (or_eq a0 b0).symm⟩
    · exact ⟨_, rfl, congrArg (by8 · 16) (xor_eq a0 b0).symm⟩
    · refine ⟨_, rfl, ?_⟩
      show by8 (a * 2 ^ (b.toNat % 128)) 16 = by8 (a * 2 ^ (b % 128).toNat) 16
      rw [hk]
    · refine ⟨_, rfl, ?_⟩
      show by8 (sgn a / 2 ^ (b.toNat % 128)) 16 = by8 ((sgn a).fdiv (2 ^ (b % 128).toNat)) 16
      rw [hk, Int.fdiv_eq_ediv_of_nonneg _ (Int.le_of_lt (Int.pow_pos (by decide)))]
    · refine ⟨_, rfl, ?_⟩
      show by8 (a / 2 ^ (b.toNat % 128)) 16 = by8 (a.fdiv (2 ^ (b % 128).toNat)) 16
      rw [hk, Int.fdiv_eq_ediv_of_nonneg _ (Int.le_of_lt (Int.pow_pos (by decide)))]
    · refine ⟨_, rfl, ?_⟩
      have hb : b % 128 = ((b.toNat % 128 : Nat) : Int) := by omega
      show _ = by8 (trn a (b % 128)) 16
      rw [hb, trn_eq a0 a1 (by omega)]
  obtain ⟨z, hz, he⟩ := key
  rw [spec_some (by omega) (by omega) hz, he, if_neg (by omega)]
end
end My
namespace My
open PySem PySem.W PySem.Calls PyProof.Rows
theorem sgn_fact (x : Int) : (170141183460469231731687303715884105728 ≤ x ∧ sgn x = x - 340282366920938463463374607431768211456) ∨ (x < 170141183460469231731687303715884105728 ∧ sgn x = x) := by
  unfold sgn; split <;> omega
theorem qtz_fact (x y : Int) : -170141183460469231731687303715884105728 ≤ x → x ≤ 170141183460469231731687303715884105728 → (-170141183460469231731687303715884105728 ≤ qtz x y ∧ qtz x y ≤ 170141183460469231731687303715884105728) := by
  intro h0 h1
  have key : ∀ a b : Int, 0 ≤ a → a ≤ 170141183460469231731687303715884105728 → 0 ≤ b → (0 ≤ a.fdiv b ∧ a.fdiv b ≤ 170141183460469231731687303715884105728) := by
    intro a b ha hb hc
    rw [Int.fdiv_eq_ediv_of_nonneg a hc]
    exact ⟨Int.ediv_nonneg ha hc, Int.le_trans (Int.ediv_le_self b ha) hb⟩
  unfold qtz
  have k := key (if x < 0 then -x else x) (if y < 0 then -y else y) (by omega) (by omega) (by omega)
  split <;> omega
theorem bits_le {k : Int} (h1 : -340282366920938463463374607431768211456 ≤ k) (h2 : k ≤ 340282366920938463463374607431768211456) : Builtin.Int.intBits k ≤ 129 := by
  unfold Builtin.Int.intBits
  split
  · exact Nat.zero_le _
  · have hn : k.natAbs < 2 ^ 129 := by
      have e : (2:Nat)^129 = 680564733841876926926749214863536422912 := by decide
      omega
    have : k.natAbs.log2 < 129 := by
      rcases Nat.eq_zero_or_pos k.natAbs with h0 | hp
      · rw [h0]; decide
      · exact (Nat.log2_lt (Nat.ne_of_gt hp)).mpr hn
    omega
theorem log_le {k : Int} (h1 : -340282366920938463463374607431768211456 ≤ k) (h2 : k ≤ 340282366920938463463374607431768211456) : k.natAbs.log2 < 9000 := by
  have hn : k.natAbs < 2 ^ 129 := by
    have e : (2:Nat)^129 = 680564733841876926926749214863536422912 := by decide
    omega
  have : k.natAbs.log2 < 129 := by
    rcases Nat.eq_zero_or_pos k.natAbs with h0 | hp
    · rw [h0]; decide
    · exact (Nat.log2_lt (Nat.ne_of_gt hp)).mpr hn
  omega
theorem sgn_a {x : Int} (h : 170141183460469231731687303715884105728 ≤ x) : x - 340282366920938463463374607431768211456 = sgn x := by unfold sgn; rw [if_pos h]
theorem sgn_b {x : Int} (h : x < 170141183460469231731687303715884105728) : x = sgn x := by unfold sgn; rw [if_neg (by omega)]
theorem fitS_a {x : Int} (h : x < -170141183460469231731687303715884105728) : decide (-170141183460469231731687303715884105728 ≤ x) = fitS x := by
  unfold fitS; rw [decide_eq_false (by omega)]; rfl
theorem fitS_b {x : Int} (h : -170141183460469231731687303715884105728 ≤ x) : decide (x < 170141183460469231731687303715884105728) = fitS x := by
  unfold fitS; rw [decide_eq_true h]; rfl
theorem fitP_a {x : Int} (h : x < 0) : decide (0 ≤ x) = fitP x := by
  unfold fitP; rw [decide_eq_false (by omega)]; rfl
theorem fitP_b {x : Int} (h : 0 ≤ x) : decide (x < 340282366920938463463374607431768211456) = fitP x := by
  unfold fitP; rw [decide_eq_true h]; rfl
theorem qtz_a {x y : Int} (h : decide (x < 0) = decide (y < 0)) : (if x < 0 then -x else x).fdiv (if y < 0 then -y else y) = qtz x y := by
  unfold qtz; rw [if_pos h]
theorem qtz_b {x y : Int} (h : ¬ decide (x < 0) = decide (y < 0)) : -((if x < 0 then -x else x).fdiv (if y < 0 then -y else y)) = qtz x y := by
  unfold qtz; rw [if_neg h]
theorem sres_0 {o x y : Int} (h : o = 0) : x + y = sres o x y := by subst h; rfl
theorem sres_1 {o x y : Int} (h : o = 1) : x - y = sres o x y := by subst h; rfl
theorem sres_2 {o x y : Int} (h : o = 2) : x * y = sres o x y := by subst h; rfl
theorem sres_6 {o x y : Int} (h : o = 6) : qtz x y = sres o x y := by subst h; rfl
theorem sres_7 {o x y : Int} (h : o = 7) : x - y * qtz x y = sres o x y := by subst h; rfl
theorem sres_8 {o x y : Int} (h : o = 8) : x.fdiv y = sres o x y := by subst h; rfl
theorem sres_9 {o x y : Int} (h0 : ¬ o = 0) (h1 : ¬ o = 1) (h2 : ¬ o = 2) (h6 : ¬ o = 6) (h7 : ¬ o = 7) (h8 : ¬ o = 8) : x.fmod y = sres o x y := by
  unfold sres; rw [if_neg h0, if_neg h1, if_neg h2, if_neg h6, if_neg h7, if_neg h8]
theorem pres_3 {o x y : Int} (h : o = 3) : x + y = pres o x y := by subst h; rfl
theorem pres_4 {o x y : Int} (h : o = 4) : x - y = pres o x y := by subst h; rfl
theorem pres_5 {o x y : Int} (h : o = 5) : x * y = pres o x y := by subst h; rfl
theorem pres_10 {o x y : Int} (h : o = 10) : x.fdiv y = pres o x y := by subst h; rfl
theorem pres_11 {o x y : Int} (h3 : ¬ o = 3) (h4 : ¬ o = 4) (h5 : ¬ o = 5) (h10 : ¬ o = 10) : x.fmod y = pres o x y := by
  unfold pres; rw [if_neg h3, if_neg h4, if_neg h5, if_neg h10]
theorem bres_12 {o x y : Int} (h : o = 12) : Builtin.bitAnd x y = bres o x y := by subst h; rfl
theorem bres_13 {o x y : Int} (h : o = 13) : Builtin.bitOr x y = bres o x y := by subst h; rfl
theorem bres_14 {o x y : Int} (h : o = 14) : Builtin.bitXor x y = bres o x y := by subst h; rfl
theorem bres_15 {o x y : Int} (h : o = 15) : x * 2 ^ (y % 128).toNat = bres o x y := by subst h; rfl
theorem bres_16 {o x y : Int} (h : o = 16) : (sgn x).fdiv (2 ^ (y % 128).toNat) = bres o x y := by subst h; rfl
theorem bres_17 {o x y : Int} (h : o = 17) : x.fdiv (2 ^ (y % 128).toNat) = bres o x y := by subst h; rfl
theorem bres_18 {o x y : Int} (h2 : ¬ o = 12) (h3 : ¬ o = 13) (h4 : ¬ o = 14) (h5 : ¬ o = 15) (h6 : ¬ o = 16) (h7 : ¬ o = 17) : trn x (y % 128) = bres o x y := by
  unfold bres; rw [if_neg h2, if_neg h3, if_neg h4, if_neg h5, if_neg h6, if_neg h7]
set_option maxRecDepth 100000 in
theorem said : PySem.Challenge.rw_widewhole_s01_op.wellSaid = true := by decide +kernel
theorem in3 {l1 h1 l2 h2 l3 h3 x y p : Int} {u : Unit} (w : Codec.withinAll [.int l1 h1, .int l2 h2, .int l3 h3] (x, y, p, u) = true) :
    (l1 ≤ x ∧ x ≤ h1) ∧ (l2 ≤ y ∧ y ≤ h2) ∧ l3 ≤ p ∧ p ≤ h3 := by
  have w' : (Codec.inInt l1 h1 x && (Codec.inInt l2 h2 y && (Codec.inInt l3 h3 p && true))) = true := w
  simp only [Codec.inInt, Bool.and_eq_true, decide_eq_true_eq] at w'
  exact ⟨w'.1, w'.2.1, w'.2.2.1⟩
theorem bounds {o a b : Int} (h : PySem.Challenge.rw_widewhole_s01_op.pre [.int o, .int a, .int b] = true) : 0 ≤ a ∧ a ≤ 340282366920938463463374607431768211455 ∧ 0 ≤ b ∧ b ≤ 340282366920938463463374607431768211455 := by
  obtain ⟨v, w, q, e⟩ := os_pre said h
  obtain ⟨x, y, p, u⟩ := v
  have e1 := os_j_int (List.cons.inj e).1
  have e2 := os_j_int (List.cons.inj (List.cons.inj e).2).1
  have e3 := os_j_int (List.cons.inj (List.cons.inj (List.cons.inj e).2).2).1
  subst e1 e2 e3
  have b := in3 w
  exact ⟨b.2.1.1, b.2.1.2, b.2.2.1, b.2.2.2⟩
theorem any_t {o : Int} (h : ([3, 4, 5, 10, 11].any fun x => x == o) = true) : o = 3 ∨ o = 4 ∨ o = 5 ∨ o = 10 ∨ o = 11 := by
  simp only [List.any_cons, List.any_nil, Bool.or_eq_true, beq_iff_eq, Bool.or_false] at h; omega
theorem any_f {o : Int} (h : ([3, 4, 5, 10, 11].any fun x => x == o) = false) : o ≠ 3 ∧ o ≠ 4 ∧ o ≠ 5 ∧ o ≠ 10 ∧ o ≠ 11 := by
  simp at h; omega
theorem walk8 (z : Int) (n : Nat) : List.map (fun k' => Builtin.bitAnd (z.fdiv (2 ^ (8 * k').toNat)) 255) (rangeKs 0 n) = by8 z n := by
  unfold rangeKs by8
  rw [List.map_map]
  apply List.map_congr_left
  intro k _
  show Builtin.bitAnd (z.fdiv (2 ^ (8 * (0 + (k : Int))).toNat)) 255 = z / 256 ^ k % 256
  have e : (8 * (0 + (k : Int))).toNat = 8 * k := by omega
  have m : Builtin.bitAnd (z.fdiv (2 ^ (8 * k))) 255 = z.fdiv (2 ^ (8 * k)) % 256 := kbt_mask _ 8
  rw [e, m, Int.fdiv_eq_ediv_of_nonneg _ (Int.le_of_lt (Int.pow_pos (by decide))), Int.pow_mul]
  rfl
section
variable {o a b : Int} {l : List Int} (hp : PySem.Challenge.rw_widewhole_s01_op.pre [.int o, .int a, .int b] = true)
include hp
theorem fin1 (h : PySf02.op o a b = l) : PySem.Challenge.rw_widewhole_s01_op.post [.int o, .int a, .int b] (ofPy (PyData.list (l.map PyData.int))) = true := by
  obtain ⟨v, w, q, e⟩ := os_pre said hp
  obtain ⟨x, y, p, u⟩ := v
  have e1 := os_j_int (List.cons.inj e).1
  have e2 := os_j_int (List.cons.inj (List.cons.inj e).2).1
  have e3 := os_j_int (List.cons.inj (List.cons.inj (List.cons.inj e).2).2).1
  subst e1 e2 e3
  refine os_shut said w ?_
  show _ = WData.list ((PySf02.op o a b).map WData.int)
  rw [h]
  exact os_list rfl
theorem fin2 (h : PySf02.op o a b = l) : PySem.Challenge.rw_widewhole_s01_op.post [.int o, .int a, .int b] (WData.list (ofPys (l.map PyData.int))) = true := by
  have f := fin1 hp h
  rw [os_list rfl] at f
  rw [os_ofPys_ints]
  exact f
theorem end_other (h : o < 0 ∨ 18 < o) : PySem.Challenge.rw_widewhole_s01_op.post [.int o, .int a, .int b] (ofPy (PyData.list [PyData.int (-2)])) = true := fin1 hp (op_other h)
theorem end_zero (h0 : 6 ≤ o) (h1 : o ≤ 11) (hb : b = 0) : PySem.Challenge.rw_widewhole_s01_op.post [.int o, .int a, .int b] (ofPy (PyData.list [PyData.int (-1)])) = true := fin1 hp (op_zero h0 h1 hb)
theorem end_bits (h0 : 12 ≤ o) (h1 : o ≤ 18) : PySem.Challenge.rw_widewhole_s01_op.post [.int o, .int a, .int b] (WData.list (ofPys (List.map PyData.int ([0, 16] ++ List.map (fun k' => Builtin.bitAnd ((bres o a b).fdiv (2 ^ (8 * k').toNat)) 255) (rangeKs 0 ((16 : Int) - 0).toNat))))) = true := by
  have B := bounds hp
  refine fin2 hp ?_
  rw [op_bits B.1 B.2.1 B.2.2.1 B.2.2.2 h0 h1, walk8]; rfl
theorem end_plain {f : Int} (ho : o = 3 ∨ o = 4 ∨ o = 5 ∨ o = 10 ∨ o = 11) (hb : b ≠ 0 ∨ o < 6) (hf : f = if fitP (pres o a b) = true then 0 else 1) : PySem.Challenge.rw_widewhole_s01_op.post [.int o, .int a, .int b] (WData.list (ofPys (List.map PyData.int ([f, 16] ++ List.map (fun k' => Builtin.bitAnd ((pres o a b).fdiv (2 ^ (8 * k').toNat)) 255) (rangeKs 0 ((16 : Int) - 0).toNat))))) = true := by
  have B := bounds hp
  refine fin2 hp ?_
  rw [op_plain B.1 B.2.1 B.2.2.1 B.2.2.2 ho hb, walk8, ← hf]; rfl
theorem end_signed {f : Int} (ho : o = 0 ∨ o = 1 ∨ o = 2 ∨ o = 6 ∨ o = 7 ∨ o = 8 ∨ o = 9) (hb : b ≠ 0 ∨ o < 6) (hf : f = if fitS (sres o (sgn a) (sgn b)) = true then 0 else 1) : PySem.Challenge.rw_widewhole_s01_op.post [.int o, .int a, .int b] (WData.list (ofPys (List.map PyData.int ([f, 16] ++ List.map (fun k' => Builtin.bitAnd ((sres o (sgn a) (sgn b)).fdiv (2 ^ (8 * k').toNat)) 255) (rangeKs 0 ((16 : Int) - 0).toNat))))) = true := by
  have B := bounds hp
  refine fin2 hp ?_
  rw [op_signed B.1 B.2.1 B.2.2.1 B.2.2.2 ho hb, walk8, ← hf]; rfl
end
theorem one_of {f : Bool} (h : f = false) : (1 : Int) = if f = true then 0 else 1 := by rw [h]; rfl
theorem zero_of {f : Bool} (h : f = true) : (0 : Int) = if f = true then 0 else 1 := by rw [h]; rfl
section
variable {prog : Program} {w : World} {A : Around} {E : Value → Shared → Prop} {s : Shared} {x y : Int} {t u : Tok} {Q : Value → Shared → Prop}
theorem step_mul (a1 : -340282366920938463463374607431768211456 ≤ x) (a2 : x ≤ 340282366920938463463374607431768211456) (b1 : -340282366920938463463374607431768211456 ≤ y) (b2 : y ≤ 340282366920938463463374607431768211456) (h : Q (.int (x * y) s.toks) { s with toks := s.toks + 1 }) : wpAny (model prog w) A (binaryOp .Mult (.int x t) (.int y u)) Q E s :=
  PyProof.Rows.mul_int h (PySem.IntMulOk.of_bits (Nat.le_trans (bits_le a1 a2) (by decide)) (Nat.le_trans (bits_le b1 b2) (by decide)))
theorem step_div (hb : y ≠ 0) (b1 : -340282366920938463463374607431768211456 ≤ y) (b2 : y ≤ 340282366920938463463374607431768211456) (h : Q (.int (x.fdiv y) s.toks) { s with toks := s.toks + 1 }) : wpAny (model prog w) A (binaryOp .FloorDiv (.int x t) (.int y u)) Q E s :=
  PyProof.Rows.floordiv_int hb h (Or.inl (PyProof.noPylong_of_log2 (log_le b1 b2)))
theorem step_mod (hb : y ≠ 0) (h : Q (.int (x.fmod y) s.toks) { s with toks := s.toks + 1 }) : wpAny (model prog w) A (binaryOp .Mod (.int x t) (.int y u)) Q E s :=
  PyProof.Rows.mod_int hb h
theorem step_shl (a1 : -340282366920938463463374607431768211456 ≤ x) (a2 : x ≤ 340282366920938463463374607431768211456) (h0 : 0 ≤ y) (h1 : y ≤ 1000) (h : Q (.int (x * 2 ^ y.toNat) s.toks) { s with toks := s.toks + 1 }) : wpAny (model prog w) A (binaryOp .LShift (.int x t) (.int y u)) Q E s := by
  refine PyProof.Rows.lshift_int h0 ?_ h
  have := bits_le a1 a2
  have e : (2:Int)^27 = 134217728 := by decide
  omega
theorem step_shr (h0 : 0 ≤ y) (h : Q (.int (x.fdiv (2 ^ y.toNat)) s.toks) { s with toks := s.toks + 1 }) : wpAny (model prog w) A (binaryOp .RShift (.int x t) (.int y u)) Q E s :=
  PyProof.Rows.rshift_int h0 h
theorem step_and127 (h : Q (.int (x % 128) s.toks) { s with toks := s.toks + 1 }) : wpAny (model prog w) A (binaryOp .BitAnd (.int x t) (.int 127 u)) Q E s := by
  refine PyProof.Rows.and_int ?_
  have e : Builtin.bitAnd x 127 = x % 128 := kbt_mask x 7
  rw [e]
  exact h
end
end My
open PySem PySem.W PyProof.Rows
local macro_rules | `(tactic| walk_at "binaryOp Mult int int") => `(tactic| (k_here; (with_reducible refine' My.step_mul ?k1 ?k2 ?k3 ?k4 ?_); (case k1 => k_dflt omega); (case k2 => k_dflt omega); (case k3 => k_dflt omega); (case k4 => k_dflt omega)))
local macro_rules | `(tactic| walk_at "binaryOp FloorDiv int int") => `(tactic| (k_here; (with_reducible refine' My.step_div ?k1 ?k2 ?k3 ?_); (case k1 => k_dflt omega); (case k2 => k_dflt omega); (case k3 => k_dflt omega)))
local macro_rules | `(tactic| walk_at "binaryOp Mod int int") => `(tactic| (k_here; (with_reducible refine' My.step_mod ?k1 ?_); (case k1 => k_dflt omega)))
local macro_rules | `(tactic| walk_at "binaryOp LShift int int") => `(tactic| (k_here; (with_reducible refine' My.step_shl ?k1 ?k2 ?k3 ?k4 ?_); (case k1 => k_dflt omega); (case k2 => k_dflt omega); (case k3 => k_dflt omega); (case k4 => k_dflt omega)))
local macro_rules | `(tactic| walk_at "binaryOp RShift int int") => `(tactic| (k_here; (with_reducible refine' My.step_shr ?k1 ?_); (case k1 => k_dflt omega)))
local macro_rules | `(tactic| walk_at "binaryOp BitAnd int int") => `(tactic| (k_here; (with_reducible show wpAny _ _ (binaryOp Operator.BitAnd (Value.int _ _) (Value.int 127 _)) _ _ _); k_dflt (refine My.step_and127 ?_)))
local macro_rules | `(tactic| walk_at "eval Call") => `(tactic| (k_here; (with_reducible show wpAny _ _ (eval (Expr.Call (Expr.Name (Str.ofString "quotient_toward_zero") _) _ _ _) _) _ _ _); k_dflt (refine Call_ ?_)))
local macro_rules | `(tactic| walk_at "eval Call") => `(tactic| (k_here; (with_reducible show wpAny _ _ (eval (Expr.Call (Expr.Name (Str.ofString "plain_result") _) _ _ _) _) _ _ _); k_dflt (refine Call_ ?_)))
local macro_rules | `(tactic| walk_at "eval Call") => `(tactic| (k_here; (with_reducible show wpAny _ _ (eval (Expr.Call (Expr.Name (Str.ofString "signed_result") _) _ _ _) _) _ _ _); k_dflt (refine Call_ ?_)))
local macro_rules | `(tactic| walk_at "eval Call") => `(tactic| (k_here; (with_reducible show wpAny _ _ (eval (Expr.Call (Expr.Name (Str.ofString "fits_plain") _) _ _ _) _) _ _ _); k_dflt (refine Call_ ?_)))
local macro_rules | `(tactic| walk_at "eval Call") => `(tactic| (k_here; (with_reducible show wpAny _ _ (eval (Expr.Call (Expr.Name (Str.ofString "fits_signed") _) _ _ _) _) _ _ _); k_dflt (refine Call_ ?_)))
local macro_rules | `(tactic| walk_at "eval Call") => `(tactic| (k_here; (with_reducible show wpAny _ _ (eval (Expr.Call (Expr.Name (Str.ofString "as_signed") _) _ _ _) _) _ _ _); k_dflt (refine Call_ ?_)))
local macro_rules | `(tactic| walk_at "eval Call") => `(tactic| (k_here; (with_reducible show wpAny _ _ (eval (Expr.Call (Expr.Name (Str.ofString "bits_result") _) _ _ _) _) _ _ _); k_dflt (refine Call_ ?_)))
local macro_rules | `(tactic| walk_at "eval Call") => `(tactic| (k_here; (with_reducible show wpAny _ _ (eval (Expr.Call (Expr.Name (Str.ofString "turned_left") _) _ _ _) _) _ _ _); k_dflt (refine Call_ ?_)))
set_option maxRecDepth 100000 in
set_option maxHeartbeats 8000000 in
theorem PySem.Challenge.cw_widewhole_s01_op_holds : PySem.Challenge.rw_widewhole_s01_op.Holds := by
  k_with "tree" => (first | exact My.sgn_a (by omega) | exact My.sgn_b (by omega) | exact My.fitS_a (by omega) | exact My.fitS_b (by omega) | exact My.fitP_a (by omega) | exact My.fitP_b (by omega) | exact My.qtz_a (by simp_all) | exact My.qtz_b (by simp_all) | exact My.sres_0 (by omega) | exact My.sres_1 (by omega) | exact My.sres_2 (by omega) | exact My.sres_6 (by omega) | exact My.sres_7 (by omega) | exact My.sres_8 (by omega) | exact My.sres_9 (by omega) (by omega) (by omega) (by omega) (by omega) (by omega) | exact My.pres_3 (by omega) | exact My.pres_4 (by omega) | exact My.pres_5 (by omega) | exact My.pres_10 (by omega) | exact My.pres_11 (by omega) (by omega) (by omega) (by omega) | exact My.bres_12 (by omega) | exact My.bres_13 (by omega) | exact My.bres_14 (by omega) | exact My.bres_15 (by omega) | exact My.bres_16 (by omega) | exact My.bres_17 (by omega) | exact My.bres_18 (by omega) (by omega) (by omega) (by omega) (by omega) (by omega) | (unfold My.trn; rfl))
  k_with "size" => (first | (rename List.any _ _ = true => hAny; simp only [List.any_cons, List.any_nil, Bool.or_eq_true, beq_iff_eq, Bool.or_false] at hAny; omega) | (rename ¬ (List.any _ _ = true) => hAny; simp only [List.any_cons, List.any_nil, Bool.or_eq_true, beq_iff_eq, Bool.or_false] at hAny; omega) | (rename List.any _ _ = false => hAny; simp at hAny; omega))
  k_with "fact as_signed" => exact My.sgn_fact
  k_with "fact quotient_toward_zero" => exact My.qtz_fact
  k_with "call ref" => k_call_rec "as_signed" My.sgn (fun (_ : Int) => True) (fun (_ : Int) => 0)
  k_with "call ref" => k_call_rec "fits_signed" My.fitS (fun (_ : Int) => True) (fun (_ : Int) => 0)
  k_with "call ref" => k_call_rec "fits_plain" My.fitP (fun (_ : Int) => True) (fun (_ : Int) => 0)
  k_with "call ref" => k_call_rec "turned_left" My.trn (fun (a d : Int) => 0 ≤ a ∧ a ≤ 340282366920938463463374607431768211455 ∧ 0 ≤ d ∧ d ≤ 127) (fun (_ _ : Int) => 0)
  k_with "call ref" => k_call_rec "quotient_toward_zero" My.qtz (fun (x y : Int) => -170141183460469231731687303715884105728 ≤ x ∧ x ≤ 170141183460469231731687303715884105728 ∧ -170141183460469231731687303715884105728 ≤ y ∧ y ≤ 170141183460469231731687303715884105728 ∧ y ≠ 0) (fun (_ _ : Int) => 0)
  k_with "call ref" => k_call_rec "signed_result" My.sres (fun (o x y : Int) => -170141183460469231731687303715884105728 ≤ x ∧ x ≤ 170141183460469231731687303715884105728 ∧ -170141183460469231731687303715884105728 ≤ y ∧ y ≤ 170141183460469231731687303715884105728 ∧ (o = 0 ∨ o = 1 ∨ o = 2 ∨ y ≠ 0)) (fun (_ _ _ : Int) => 3)
  k_with "call ref" => k_call_rec "plain_result" My.pres (fun (o x y : Int) => 0 ≤ x ∧ x ≤ 340282366920938463463374607431768211455 ∧ 0 ≤ y ∧ y ≤ 340282366920938463463374607431768211455 ∧ (o = 3 ∨ o = 4 ∨ o = 5 ∨ y ≠ 0)) (fun (_ _ _ : Int) => 0)
  k_with "call ref" => k_call_rec "bits_result" My.bres (fun (_ x y : Int) => 0 ≤ x ∧ x ≤ 340282366920938463463374607431768211455 ∧ 0 ≤ y ∧ y ≤ 340282366920938463463374607431768211455) (fun (_ _ _ : Int) => 3)
  w_on; k_headS; (case hw => exact ⟨[.int 0, .int 0, .int 0], by decide +kernel, by decide +kernel⟩); w_strict (k_goS0; (with_reducible rename OpenSpec.pre _ _ = true => osP); (have osB := My.bounds osP); (all_goals try k_fold); k_steps; (all_goals (try (w_end; sp_is; wrow_close))); (all_goals (try k_data)); all_goals first | sp_left | w_report)
  all_goals first
    | exact My.end_other hpre (by omega)
    | exact My.end_zero hpre (by omega) (by omega) (by omega)
    | exact My.end_bits hpre (by omega) (by omega)
    | exact My.end_plain hpre (My.any_t (by assumption)) (by omega) (My.zero_of (by assumption))
    | exact My.end_plain hpre (My.any_t (by assumption)) (by omega) (My.one_of (by assumption))
    | (have hf := My.any_f (by assumption); exact My.end_signed hpre (by omega) (by omega) (My.zero_of (by assumption)))
    | (have hf := My.any_f (by assumption); exact My.end_signed hpre (by omega) (by omega) (My.one_of (by assumption)))
#print axioms PySem.Challenge.cw_widewhole_s01_op_holds
