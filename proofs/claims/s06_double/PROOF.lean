import PyProof.Rows.All
import KE.OsGo
import KE.OsArgs
import PySem.Challenge.RW_widewhole_s06_double
set_option Elab.async false
namespace My
open PySem
theorem p127 : (2:Int) ^ 127 = 170141183460469231731687303715884105728 := by decide
theorem p127n : (2:Nat) ^ 127 = 170141183460469231731687303715884105728 := by decide
theorem W_lit : Sf02.W = 340282366920938463463374607431768211456 := by decide
/- bytes, the lowest first -/
def by8 (z : Int) (n : Nat) : List Int := (List.range n).map fun (k : Nat) => z / 256 ^ k % 256
theorem told_le (n k : Nat) : Sf02Neutral.bytesTold (Sf02.le k n) = by8 (n : Int) k := by
  unfold Sf02Neutral.bytesTold Sf02.le by8
  rw [List.map_map]
  apply List.map_congr_left
  intro i _
  show ((UInt8.ofNat (n / 256 ^ i % 256)).toNat : Int) = _
  have e : (UInt8.ofNat (n / 256 ^ i % 256)).toNat = n / 256 ^ i % 256 := by
    rw [UInt8.toNat_ofNat']; exact Nat.mod_mod _ _
  rw [e]; simp
theorem pmod (z : Int) {p m : Int} (hp : 0 < p) (hm : 0 < m) : (z % (p * m)) / p = z / p % m := by
  have hne : p ≠ 0 := by omega
  have e : z = z % (p * m) + p * (m * (z / (p * m))) := by
    have := Int.emod_add_mul_ediv z (p * m)
    rw [Int.mul_assoc] at this; omega
  have e2 : z / p = (z % (p * m)) / p + m * (z / (p * m)) := by
    conv => lhs; rw [e]
    rw [Int.add_mul_ediv_left _ _ hne]
  have h0 : 0 ≤ z % (p * m) := Int.emod_nonneg _ (by have := Int.mul_pos hp hm; omega)
  have h1 : z % (p * m) < p * m := Int.emod_lt_of_pos _ (Int.mul_pos hp hm)
  rw [e2, Int.add_mul_emod_self_left, Int.emod_eq_of_lt (Int.ediv_nonneg h0 (by omega)) (Int.ediv_lt_of_lt_mul hp (by rw [Int.mul_comm m p]; exact h1))]
theorem by8_mod (z : Int) (n : Nat) : by8 (z % 256 ^ n) n = by8 z n := by
  unfold by8
  apply List.map_congr_left
  intro k hk
  have hk' : k < n := List.mem_range.mp hk
  have e : (256:Int) ^ n = 256 ^ k * 256 ^ (n - k) := by rw [← Int.pow_add]; congr 1; omega
  have e3 : (256:Int) ^ (n - k) = 256 * 256 ^ (n - k - 1) := by
    have : n - k = (n - k - 1) + 1 := by omega
    conv => lhs; rw [this, Int.pow_succ]
    rw [Int.mul_comm]
  rw [e, pmod z (Int.pow_pos (by decide)) (Int.pow_pos (by decide)), e3, Int.emod_emod_of_dvd _ ⟨_, rfl⟩]
theorem told_bits (z : Int) : Sf02Neutral.bytesTold (Sf02.le 16 (Sf02.bits z)) = by8 z 16 := by
  rw [told_le]
  have e : ((Sf02.bits z : Nat) : Int) = z % 256 ^ 16 := by
    unfold Sf02.bits
    rw [W_lit]
    have : (256:Int) ^ 16 = 340282366920938463463374607431768211456 := by decide
    rw [this]; omega
  rw [e, by8_mod]
theorem by8_congr {z y : Int} {n : Nat} (h : z % 256 ^ n = y % 256 ^ n) : by8 z n = by8 y n := by
  rw [← by8_mod z, h, by8_mod]

def sgn (x : Int) : Int := if 170141183460469231731687303715884105728 ≤ x then x - 340282366920938463463374607431768211456 else x
def fitS (x : Int) : Bool := decide (-170141183460469231731687303715884105728 ≤ x) && decide (x < 170141183460469231731687303715884105728)
def fitP (x : Int) : Bool := decide (0 ≤ x) && decide (x < 340282366920938463463374607431768211456)
theorem mod_W {x : Int} (h0 : 0 ≤ x) (h1 : x ≤ 340282366920938463463374607431768211455) : x.toNat % Sf02.W = x.toNat := by
  rw [W_lit]; omega
theorem mod_Wi {x : Int} (h0 : 0 ≤ x) (h1 : x ≤ 340282366920938463463374607431768211455) : (((x.toNat % Sf02.W : Nat)) : Int) = x := by
  rw [W_lit]; omega
theorem signed_eq {x : Int} (h0 : 0 ≤ x) (h1 : x ≤ 340282366920938463463374607431768211455) : Sf02.signed x.toNat = sgn x := by
  have e := mod_Wi h0 h1
  unfold Sf02.signed sgn
  rw [e, p127n]
  rw [W_lit] at *
  split <;> split <;> omega
theorem fits_S (z : Int) : Sf02.fits false z = fitS z := by
  unfold Sf02.fits fitS
  rw [p127]; rfl
theorem fits_P (z : Int) : Sf02.fits true z = fitP z := by
  unfold Sf02.fits fitP
  rw [W_lit]; rfl
end My
namespace My
theorem log2_of {n k : Nat} (h0 : 2 ^ k ≤ n) (h1 : n < 2 ^ (k + 1)) : Nat.log2 n = k := by
  have hn : n ≠ 0 := by have := Nat.two_pow_pos k; omega
  have a := (Nat.le_log2 hn).mpr h0
  have b := (Nat.log2_lt hn).mpr h1
  omega
/- a number of 53 bits at most, as a double -/
theorem dbl_small {n k : Nat} (h0 : 2 ^ k ≤ n) (h1 : n < 2 ^ (k + 1)) (hk : k ≤ 52) :
    Sf02.doubleOf (Sf02.rounded n) = (k + 1023) * 2 ^ 52 + (n * 2 ^ (52 - k) - 2 ^ 52) := by
  have hn : n ≠ 0 := by have := Nat.two_pow_pos k; omega
  have h53 : n < 2 ^ 53 := Nat.lt_of_lt_of_le h1 (Nat.pow_le_pow_right (by decide) (by omega))
  unfold Sf02.rounded
  rw [if_pos h53]
  unfold Sf02.doubleOf
  rw [if_neg hn]
  simp only [log2_of h0 h1]
  by_cases hk2 : 52 ≤ k
  · have e : k = 52 := by omega
    subst e
    rw [if_pos (by decide)]
    simp
  · rw [if_neg hk2]
theorem dbl_zero : Sf02.doubleOf (Sf02.rounded 0) = 0 := by
  unfold Sf02.rounded; rw [if_pos (by decide)]; rfl
def up (n e : Nat) : Nat := if 2 ^ (e - 1) < n % 2 ^ e ∨ (n % 2 ^ e = 2 ^ (e - 1) ∧ n / 2 ^ e % 2 = 1) then n / 2 ^ e + 1 else n / 2 ^ e
theorem dbl_big {n e : Nat} (h0 : 2 ^ (e + 52) ≤ n) (h1 : n < 2 ^ (e + 53)) (he : 1 ≤ e) :
    Sf02.doubleOf (Sf02.rounded n) = (e + 52 + 1023) * 2 ^ 52 + (up n e - 2 ^ 52) := by
  have hl : Nat.log2 n = e + 52 := log2_of h0 h1
  have h53 : ¬ n < 2 ^ 53 := by
    have : 2 ^ 53 ≤ 2 ^ (e + 52) := Nat.pow_le_pow_right (by decide) (by omega)
    omega
  have er : Sf02.rounded n = up n e * 2 ^ e := by
    unfold Sf02.rounded up
    rw [if_neg h53]
    simp only [hl, Nat.add_sub_cancel]
  have pe := Nat.two_pow_pos e
  have q0 : 2 ^ 52 ≤ n / 2 ^ e := by
    rw [Nat.le_div_iff_mul_le pe, ← Nat.pow_add, Nat.add_comm]; exact h0
  have q1 : n / 2 ^ e < 2 ^ 53 := by
    apply Nat.div_lt_of_lt_mul
    rw [← Nat.pow_add]; exact h1
  have u0 : 2 ^ 52 ≤ up n e := by unfold up; split <;> omega
  have u1 : up n e ≤ 2 ^ 53 := by unfold up; split <;> omega
  rw [er]
  unfold Sf02.doubleOf
  have hne : ¬ up n e * 2 ^ e = 0 := by
    have : 0 < up n e * 2 ^ e := Nat.mul_pos (by omega) pe
    omega
  rw [if_neg hne]
  by_cases hu : up n e = 2 ^ 53
  · have l2 : Nat.log2 (up n e * 2 ^ e) = e + 53 := by
      rw [hu, ← Nat.pow_add, Nat.log2_two_pow]; omega
    simp only [l2]
    rw [if_pos (by omega), hu]
    have : e + 53 - 52 = e + 1 := by omega
    rw [this, show (2:Nat) ^ 53 * 2 ^ e = 2 ^ 52 * 2 ^ (e + 1) by rw [← Nat.pow_add, ← Nat.pow_add]; congr 1; omega, Nat.mul_div_cancel _ (Nat.two_pow_pos _)]
    omega
  · have l2 : Nat.log2 (up n e * 2 ^ e) = e + 52 := by
      apply log2_of
      · rw [show e + 52 = 52 + e by omega, Nat.pow_add]; exact Nat.mul_le_mul_right _ u0
      · rw [show e + 52 + 1 = 53 + e by omega, Nat.pow_add]; exact Nat.mul_lt_mul_of_pos_right (by omega) pe
    simp only [l2]
    rw [if_pos (by omega), show e + 52 - 52 = e by omega, Nat.mul_div_cancel _ pe]
theorem double_open (a p : Int) : PySf02.double a p = [((Sf02.double (Sf02.kind (p != 0) a.toNat) : Nat) : Int)] := rfl
end My
namespace My
open PySem PySem.W PySem.Calls PyProof.Rows
set_option maxRecDepth 100000 in
theorem said : PySem.Challenge.rw_widewhole_s06_double.wellSaid = true := by decide +kernel
theorem in2 {l1 h1 l2 h2 x y : Int} {u : Unit} (w : Codec.withinAll [.int l1 h1, .int l2 h2] (x, y, u) = true) : (l1 ≤ x ∧ x ≤ h1) ∧ l2 ≤ y ∧ y ≤ h2 := by
  have w' : (Codec.inInt l1 h1 x && (Codec.inInt l2 h2 y && true)) = true := w
  simp only [Codec.inInt, Bool.and_eq_true, decide_eq_true_eq] at w'
  exact ⟨w'.1, w'.2.1⟩
theorem bounds {a b : Int} (h : PySem.Challenge.rw_widewhole_s06_double.pre [.int a, .int b] = true) : 0 ≤ a ∧ a ≤ 340282366920938463463374607431768211455 ∧ 0 ≤ b ∧ b ≤ 1 := by
  obtain ⟨v, w, q, e⟩ := os_pre said h
  obtain ⟨x, y, u⟩ := v
  have e1 := os_j_int (List.cons.inj e).1
  have e2 := os_j_int (List.cons.inj (List.cons.inj e).2).1
  subst e1 e2
  have b := in2 w
  exact ⟨b.1.1, b.1.2, b.2.1, b.2.2⟩
theorem fin1 {a b : Int} {l : List Int} (hp : PySem.Challenge.rw_widewhole_s06_double.pre [.int a, .int b] = true) (h : PySf02.double a b = l) : PySem.Challenge.rw_widewhole_s06_double.post [.int a, .int b] (ofPy (PyData.list (l.map PyData.int))) = true := by
  obtain ⟨v, w, q, e⟩ := os_pre said hp
  obtain ⟨x, y, u⟩ := v
  have e1 := os_j_int (List.cons.inj e).1
  have e2 := os_j_int (List.cons.inj (List.cons.inj e).2).1
  subst e1 e2
  refine os_shut said w ?_
  show _ = WData.list ((PySf02.double a b).map WData.int)
  rw [h]
  exact os_list rfl
theorem fin2 {a b : Int} {l : List Int} (hp : PySem.Challenge.rw_widewhole_s06_double.pre [.int a, .int b] = true) (h : PySf02.double a b = l) : PySem.Challenge.rw_widewhole_s06_double.post [.int a, .int b] (WData.list (ofPys (l.map PyData.int))) = true := by
  have f := fin1 hp h
  rw [os_list rfl] at f
  rw [os_ofPys_ints]
  exact f
end My
namespace My
open PySem PySem.W PySem.Calls PyProof.Rows
theorem bits_le {k : Int} (h1 : -115792089237316195423570985008687907853269984665640564039457584007913129639936 ≤ k) (h2 : k ≤ 115792089237316195423570985008687907853269984665640564039457584007913129639936) : Builtin.Int.intBits k ≤ 257 := by
  unfold Builtin.Int.intBits
  split
  · exact Nat.zero_le _
  · have hn : k.natAbs < 2 ^ 257 := by
      have e : (2:Nat)^257 = 231584178474632390847141970017375815706539969331281128078915168015826259279872 := by decide
      omega
    have : k.natAbs.log2 < 257 := by
      rcases Nat.eq_zero_or_pos k.natAbs with h0 | hp
      · rw [h0]; decide
      · exact (Nat.log2_lt (Nat.ne_of_gt hp)).mpr hn
    omega
theorem log_le {k : Int} (h1 : -115792089237316195423570985008687907853269984665640564039457584007913129639936 ≤ k) (h2 : k ≤ 115792089237316195423570985008687907853269984665640564039457584007913129639936) : k.natAbs.log2 < 9000 := by
  have hn : k.natAbs < 2 ^ 257 := by
    have e : (2:Nat)^257 = 231584178474632390847141970017375815706539969331281128078915168015826259279872 := by decide
    omega
  have : k.natAbs.log2 < 257 := by
    rcases Nat.eq_zero_or_pos k.natAbs with h0 | hp
    · rw [h0]; decide
    · exact (Nat.log2_lt (Nat.ne_of_gt hp)).mpr hn
  omega
theorem walk8 (z : Int) (n : Nat) : List.map (fun k' => Builtin.bitAnd (z.fdiv (2 ^ (8 * k').toNat)) 255) (rangeKs 0 n) = by8 z n := by
  unfold rangeKs by8
  rw [List.map_map]
  apply List.map_congr_left
  intro k _
  show Builtin.bitAnd (z.fdiv (2 ^ (8 * (0 + (k : Int))).toNat)) 255 = z / 256 ^ k % 256
  have e : (8 * (0 + (k : Int))).toNat = 8 * k := by omega
  have m : Builtin.bitAnd (z.fdiv (2 ^ (8 * k))) 255 = z.fdiv (2 ^ (8 * k)) % 256 := kbt_mask _ 8
  rw [e, m, Int.fdiv_eq_ediv_of_nonneg _ (Int.le_of_lt (Int.pow_pos (by decide))), Int.pow_mul]
  rfl
theorem sgn_fact (x : Int) : (170141183460469231731687303715884105728 ≤ x ∧ sgn x = x - 340282366920938463463374607431768211456) ∨ (x < 170141183460469231731687303715884105728 ∧ sgn x = x) := by
  unfold sgn; split <;> omega
theorem sgn_a {x : Int} (h : 170141183460469231731687303715884105728 ≤ x) : x - 340282366920938463463374607431768211456 = sgn x := by unfold sgn; rw [if_pos h]
theorem sgn_b {x : Int} (h : x < 170141183460469231731687303715884105728) : x = sgn x := by unfold sgn; rw [if_neg (by omega)]
theorem fitS_a {x : Int} (h : x < -170141183460469231731687303715884105728) : decide (-170141183460469231731687303715884105728 ≤ x) = fitS x := by
  unfold fitS; rw [decide_eq_false (by omega)]; rfl
theorem fitS_b {x : Int} (h : -170141183460469231731687303715884105728 ≤ x) : decide (x < 170141183460469231731687303715884105728) = fitS x := by
  unfold fitS; rw [decide_eq_true h]; rfl
theorem fitP_a {x : Int} (h : x < 0) : decide (0 ≤ x) = fitP x := by
  unfold fitP; rw [decide_eq_false (by omega)]; rfl
theorem fitP_b {x : Int} (h : 0 ≤ x) : decide (x < 340282366920938463463374607431768211456) = fitP x := by
  unfold fitP; rw [decide_eq_true h]; rfl
section
variable {prog : Program} {w : World} {A : Around} {E : Value → Shared → Prop} {s : Shared} {x y : Int} {t u : Tok} {Q : Value → Shared → Prop}
theorem step_mul (a1 : -115792089237316195423570985008687907853269984665640564039457584007913129639936 ≤ x) (a2 : x ≤ 115792089237316195423570985008687907853269984665640564039457584007913129639936) (b1 : -115792089237316195423570985008687907853269984665640564039457584007913129639936 ≤ y) (b2 : y ≤ 115792089237316195423570985008687907853269984665640564039457584007913129639936) (h : Q (.int (x * y) s.toks) { s with toks := s.toks + 1 }) : wpAny (model prog w) A (binaryOp .Mult (.int x t) (.int y u)) Q E s :=
  PyProof.Rows.mul_int h (PySem.IntMulOk.of_bits (Nat.le_trans (bits_le a1 a2) (by decide)) (Nat.le_trans (bits_le b1 b2) (by decide)))
theorem step_div (hb : y ≠ 0) (b1 : -115792089237316195423570985008687907853269984665640564039457584007913129639936 ≤ y) (b2 : y ≤ 115792089237316195423570985008687907853269984665640564039457584007913129639936) (h : Q (.int (x.fdiv y) s.toks) { s with toks := s.toks + 1 }) : wpAny (model prog w) A (binaryOp .FloorDiv (.int x t) (.int y u)) Q E s :=
  PyProof.Rows.floordiv_int hb h (Or.inl (PyProof.noPylong_of_log2 (log_le b1 b2)))
theorem step_mod (hb : y ≠ 0) (h : Q (.int (x.fmod y) s.toks) { s with toks := s.toks + 1 }) : wpAny (model prog w) A (binaryOp .Mod (.int x t) (.int y u)) Q E s :=
  PyProof.Rows.mod_int hb h
theorem step_shl (a1 : -115792089237316195423570985008687907853269984665640564039457584007913129639936 ≤ x) (a2 : x ≤ 115792089237316195423570985008687907853269984665640564039457584007913129639936) (h0 : 0 ≤ y) (h1 : y ≤ 3000) (h : Q (.int (x * 2 ^ y.toNat) s.toks) { s with toks := s.toks + 1 }) : wpAny (model prog w) A (binaryOp .LShift (.int x t) (.int y u)) Q E s := by
  refine PyProof.Rows.lshift_int h0 ?_ h
  have := bits_le a1 a2
  have e : (2:Int)^27 = 134217728 := by decide
  omega
theorem step_shr (h0 : 0 ≤ y) (h : Q (.int (x.fdiv (2 ^ y.toNat)) s.toks) { s with toks := s.toks + 1 }) : wpAny (model prog w) A (binaryOp .RShift (.int x t) (.int y u)) Q E s :=
  PyProof.Rows.rshift_int h0 h
end
end My
open PySem PySem.W PyProof.Rows
local macro_rules | `(tactic| walk_at "binaryOp Mult int int") => `(tactic| (k_here; (with_reducible refine' My.step_mul ?k1 ?k2 ?k3 ?k4 ?_); (case k1 => k_dflt omega); (case k2 => k_dflt omega); (case k3 => k_dflt omega); (case k4 => k_dflt omega)))
local macro_rules | `(tactic| walk_at "binaryOp FloorDiv int int") => `(tactic| (k_here; (with_reducible refine' My.step_div ?k1 ?k2 ?k3 ?_); (case k1 => k_dflt omega); (case k2 => k_dflt omega); (case k3 => k_dflt omega)))
local macro_rules | `(tactic| walk_at "binaryOp Mod int int") => `(tactic| (k_here; (with_reducible refine' My.step_mod ?k1 ?_); (case k1 => k_dflt omega)))
local macro_rules | `(tactic| walk_at "binaryOp LShift int int") => `(tactic| (k_here; (with_reducible refine' My.step_shl ?k1 ?k2 ?k3 ?k4 ?_); (case k1 => k_dflt omega); (case k2 => k_dflt omega); (case k3 => k_dflt omega); (case k4 => k_dflt omega)))
local macro_rules | `(tactic| walk_at "binaryOp RShift int int") => `(tactic| (k_here; (with_reducible refine' My.step_shr ?k1 ?_); (case k1 => k_dflt omega)))
namespace My
open PySem PySem.W PySem.Calls PyProof.Rows
def told (a p : Int) : Int := if p = 1 then a else sgn a
theorem told_1 {a p : Int} (h : p = 1) : a = told a p := by unfold told; rw [if_pos h]
theorem told_0 {a p : Int} (h : ¬ p = 1) : sgn a = told a p := by unfold told; rw [if_neg h]
theorem told_fact (a p : Int) : 0 ≤ a → a ≤ 340282366920938463463374607431768211455 → (-170141183460469231731687303715884105728 ≤ told a p ∧ told a p ≤ 340282366920938463463374607431768211455) := by
  intro h0 h1
  have := sgn_fact a
  unfold told; split <;> omega
def rnd (s d : Int) : Int := if 2 ^ d.toNat < (s - s.fdiv (2 ^ d.toNat) * 2 ^ d.toNat) * 2 ∨ ((s - s.fdiv (2 ^ d.toNat) * 2 ^ d.toNat) * 2 = 2 ^ d.toNat ∧ s.fdiv (2 ^ d.toNat) % 2 = 1) then s.fdiv (2 ^ d.toNat) + 1 else s.fdiv (2 ^ d.toNat)
theorem rnd_up {s d q p u : Int} (hq : q = s.fdiv (2 ^ d.toNat)) (hp : p = q * 2 ^ d.toNat) (hu : u = 2 ^ d.toNat) (h : u < (s - p) * 2 ∨ ((s - p) * 2 = u ∧ q % 2 = 1)) : q + 1 = rnd s d := by
  unfold rnd; rw [← hq, ← hp, ← hu, if_pos h]
theorem rnd_dn {s d q p u : Int} (hq : q = s.fdiv (2 ^ d.toNat)) (hp : p = q * 2 ^ d.toNat) (hu : u = 2 ^ d.toNat) (h : ¬ (u < (s - p) * 2 ∨ ((s - p) * 2 = u ∧ q % 2 = 1))) : q = rnd s d := by
  unfold rnd; rw [← hq, ← hp, ← hu, if_neg h]
def ldb (s w : Int) : Int := if (Builtin.Int.intBits s : Int) - w ≤ 0 then s * 2 ^ (-((Builtin.Int.intBits s : Int) - w)).toNat else rnd s ((Builtin.Int.intBits s : Int) - w)
theorem ldb_a {s w n : Int} (hn : n = (Builtin.Int.intBits s : Int)) (h : n - w ≤ 0) : s * 2 ^ (-(n - w)).toNat = ldb s w := by
  unfold ldb; rw [← hn, if_pos h]
theorem ldb_b {s w n : Int} (hn : n = (Builtin.Int.intBits s : Int)) (h : ¬ n - w ≤ 0) : rnd s (n - w) = ldb s w := by
  unfold ldb; rw [← hn, if_neg h]
def dsz (s : Int) : Int := if s = 0 then 0 else (1023 + (Builtin.Int.intBits s : Int) - 1 - 1) * 4503599627370496 + ldb s 53
theorem dsz_0 {s : Int} (h : s = 0) : 0 = dsz s := by unfold dsz; rw [if_pos h]
theorem dsz_n {s n : Int} (hn : n = (Builtin.Int.intBits s : Int)) (h : ¬ s = 0) : (1023 + n - 1 - 1) * 4503599627370496 + ldb s 53 = dsz s := by
  unfold dsz; rw [← hn, if_neg h]
theorem intBits_pos {z : Int} (h : z ≠ 0) : Builtin.Int.intBits z = z.natAbs.log2 + 1 := by
  unfold Builtin.Int.intBits
  rw [if_neg]
  simp [h]
theorem rnd_nat {n e : Nat} (he : 1 ≤ e) : rnd (n : Int) (e : Int) = (up n e : Int) := by
  have c : (2 : Int) ^ e = ((2 ^ e : Nat) : Int) := by rw [Int.natCast_pow]; rfl
  have f : (n : Int).fdiv (2 ^ e) = ((n / 2 ^ e : Nat) : Int) := by
    rw [Int.fdiv_eq_ediv_of_nonneg _ (Int.le_of_lt (Int.pow_pos (by decide))), c, Int.natCast_ediv]
  have m := Nat.div_add_mod n (2 ^ e)
  have h2 : 2 ^ e = 2 * 2 ^ (e - 1) := by
    have : e = (e - 1) + 1 := by omega
    conv => lhs; rw [this, Nat.pow_succ]
    rw [Nat.mul_comm]
  unfold rnd up
  rw [Int.toNat_natCast, f, c]
  have r : ((n : Int) - ((n / 2 ^ e : Nat) : Int) * ((2 ^ e : Nat) : Int)) = ((n % 2 ^ e : Nat) : Int) := by
    rw [← Int.natCast_mul, Nat.mul_comm]; omega
  rw [r]
  generalize n % 2 ^ e = R at *
  generalize n / 2 ^ e = K at *
  generalize 2 ^ (e - 1) = H at *
  rw [h2]
  split <;> split <;> omega
theorem ldb_small {n k : Nat} (h0 : 2 ^ k ≤ n) (h1 : n < 2 ^ (k + 1)) (hk : k ≤ 52) : ldb (n : Int) 53 = ((n * 2 ^ (52 - k) : Nat) : Int) := by
  have hn : n ≠ 0 := by have := Nat.two_pow_pos k; omega
  unfold ldb
  rw [intBits_pos (by omega), Int.natAbs_natCast, log2_of h0 h1, if_pos (by omega), show (-(((k + 1 : Nat) : Int) - 53)).toNat = 52 - k by omega, Int.natCast_mul, Int.natCast_pow]
  rfl
theorem ldb_big {n e : Nat} (h0 : 2 ^ (e + 52) ≤ n) (h1 : n < 2 ^ (e + 53)) (he : 1 ≤ e) : ldb (n : Int) 53 = (up n e : Int) := by
  have hn : n ≠ 0 := by have := Nat.two_pow_pos (e + 52); omega
  unfold ldb
  rw [intBits_pos (by omega), Int.natAbs_natCast, log2_of h0 h1, if_neg (by omega), show (((e + 52 + 1 : Nat) : Int) - 53) = (e : Int) by omega, rnd_nat he]
theorem up_ge {n e : Nat} (h0 : 2 ^ (e + 52) ≤ n) : 2 ^ 52 ≤ up n e := by
  have pe := Nat.two_pow_pos e
  have q0 : 2 ^ 52 ≤ n / 2 ^ e := by
    rw [Nat.le_div_iff_mul_le pe, ← Nat.pow_add, Nat.add_comm]; exact h0
  unfold up; split <;> omega
theorem dsz_eq (n : Nat) : dsz (n : Int) = (Sf02.doubleOf (Sf02.rounded n) : Int) := by
  by_cases hn : n = 0
  · subst hn; rw [dbl_zero]; rfl
  · unfold dsz
    rw [if_neg (by omega)]
    have h0 : 2 ^ n.log2 ≤ n := Nat.log2_self_le hn
    have h1 : n < 2 ^ (n.log2 + 1) := Nat.lt_log2_self
    have hb : Builtin.Int.intBits (n : Int) = n.log2 + 1 := by rw [intBits_pos (by omega), Int.natAbs_natCast]
    have p52 : (2 : Nat) ^ 52 = 4503599627370496 := by decide
    by_cases hk : n.log2 ≤ 52
    · rw [ldb_small h0 h1 hk, dbl_small h0 h1 hk, hb]
      have g : 2 ^ 52 ≤ n * 2 ^ (52 - n.log2) := by
        have : 2 ^ n.log2 * 2 ^ (52 - n.log2) ≤ n * 2 ^ (52 - n.log2) := Nat.mul_le_mul_right _ h0
        rw [← Nat.pow_add, show n.log2 + (52 - n.log2) = 52 by omega] at this
        exact this
      rw [p52] at *
      omega
    · have e : n.log2 = (n.log2 - 52) + 52 := by omega
      generalize n.log2 - 52 = e at *
      rw [e] at h0 h1 hb
      have u := up_ge h0
      rw [ldb_big h0 h1 (by omega), dbl_big h0 h1 (by omega), hb]
      rw [p52] at *
      omega
theorem kind_told {a p : Int} (h0 : 0 ≤ a) (h1 : a ≤ 340282366920938463463374607431768211455) (hp0 : 0 ≤ p) (hp1 : p ≤ 1) : Sf02.kind (p != 0) a.toNat = told a p := by
  unfold Sf02.kind told
  rw [mod_Wi h0 h1, signed_eq h0 h1]
  rcases (by omega : p = 0 ∨ p = 1) with e | e <;> subst e <;> simp
section
variable {a b : Int} (hp : PySem.Challenge.rw_widewhole_s06_double.pre [.int a, .int b] = true)
include hp
theorem end_neg (h : told a b < 0) : PySem.Challenge.rw_widewhole_s06_double.post [.int a, .int b] (ofPy (PyData.list [PyData.int (dsz (if told a b < 0 then -(told a b) else told a b) + 9223372036854775808)])) = true := by
  have B := bounds hp
  refine fin1 (l := [dsz (if told a b < 0 then -(told a b) else told a b) + 9223372036854775808]) hp ?_
  rw [double_open, kind_told B.1 B.2.1 B.2.2.1 B.2.2.2, if_pos h]
  unfold Sf02.double
  rw [if_pos h, show -(told a b) = (((told a b).natAbs : Nat) : Int) by omega, dsz_eq]
  have p : (2 : Nat) ^ 63 = 9223372036854775808 := by decide
  rw [p]
  congr 1
  omega
theorem end_pos (h : ¬ told a b < 0) : PySem.Challenge.rw_widewhole_s06_double.post [.int a, .int b] (ofPy (PyData.list [PyData.int (dsz (if told a b < 0 then -(told a b) else told a b))])) = true := by
  have B := bounds hp
  refine fin1 (l := [dsz (if told a b < 0 then -(told a b) else told a b)]) hp ?_
  rw [double_open, kind_told B.1 B.2.1 B.2.2.1 B.2.2.2, if_neg h]
  unfold Sf02.double
  rw [if_neg h]
  have e : told a b = (((told a b).natAbs : Nat) : Int) := by omega
  generalize (told a b).natAbs = N at *
  rw [e, dsz_eq, Nat.zero_add]
end
section
variable {prog : Program} {w : World} {A : Around} {E : Value → Shared → Prop} {s : Shared} {x y z : Int} {t u : Tok} {Q : Value → Shared → Prop}
theorem step_modE (hb : 0 < y) (h : Q (.int (x % y) s.toks) { s with toks := s.toks + 1 }) : wpAny (model prog w) A (binaryOp .Mod (.int x t) (.int y u)) Q E s := by
  refine PyProof.Rows.mod_int (by omega) ?_
  rw [Int.fmod_eq_emod_of_nonneg x (by omega)]; exact h
theorem step_shrQ (hx : 0 ≤ x) (h0 : 0 ≤ y) (h : ∀ q, q = x.fdiv (2 ^ y.toNat) → 0 ≤ q → q ≤ x → Q (.int q s.toks) { s with toks := s.toks + 1 }) : wpAny (model prog w) A (binaryOp .RShift (.int x t) (.int y u)) Q E s := by
  refine PyProof.Rows.rshift_int h0 ?_
  have hp : (0 : Int) ≤ 2 ^ y.toNat := Int.le_of_lt (Int.pow_pos (by decide))
  refine h _ rfl ?_ ?_
  · rw [Int.fdiv_eq_ediv_of_nonneg _ hp]; exact Int.ediv_nonneg hx hp
  · rw [Int.fdiv_eq_ediv_of_nonneg _ hp]; exact Int.ediv_le_self _ hx
theorem step_keep (hq : x = z.fdiv (2 ^ y.toNat)) (a1 : -115792089237316195423570985008687907853269984665640564039457584007913129639936 ≤ x) (a2 : x ≤ 115792089237316195423570985008687907853269984665640564039457584007913129639936) (h0 : 0 ≤ y) (h1 : y ≤ 3000) (h2 : 0 ≤ x) (h : ∀ p, p = x * 2 ^ y.toNat → 0 ≤ p → p ≤ z → Q (.int p s.toks) { s with toks := s.toks + 1 }) : wpAny (model prog w) A (binaryOp .LShift (.int x t) (.int y u)) Q E s := by
  refine step_shl a1 a2 h0 h1 (h _ rfl ?_ ?_)
  · exact Int.mul_nonneg h2 (Int.le_of_lt (Int.pow_pos (by decide)))
  · rw [hq, Int.fdiv_eq_ediv_of_nonneg _ (Int.le_of_lt (Int.pow_pos (by decide)))]
    exact Int.ediv_mul_le _ (Int.ne_of_gt (Int.pow_pos (by decide)))
theorem step_shl1 (a1 : -115792089237316195423570985008687907853269984665640564039457584007913129639936 ≤ x) (a2 : x ≤ 115792089237316195423570985008687907853269984665640564039457584007913129639936) (h : Q (.int (x * 2) s.toks) { s with toks := s.toks + 1 }) : wpAny (model prog w) A (binaryOp .LShift (.int x t) (.int 1 u)) Q E s := by
  refine step_shl a1 a2 (by decide) (by decide) ?_
  exact h
theorem step_shl52 (a1 : -115792089237316195423570985008687907853269984665640564039457584007913129639936 ≤ x) (a2 : x ≤ 115792089237316195423570985008687907853269984665640564039457584007913129639936) (h : Q (.int (x * 4503599627370496) s.toks) { s with toks := s.toks + 1 }) : wpAny (model prog w) A (binaryOp .LShift (.int x t) (.int 52 u)) Q E s := by
  refine step_shl a1 a2 (by decide) (by decide) ?_
  have e : (2 : Int) ^ (52 : Int).toNat = 4503599627370496 := by decide
  rw [e]; exact h
theorem step_unit (h0 : 0 ≤ y) (h1 : y ≤ 3000) (h : ∀ v, v = 2 ^ y.toNat → Q (.int v s.toks) { s with toks := s.toks + 1 }) : wpAny (model prog w) A (binaryOp .LShift (.int 1 t) (.int y u)) Q E s := by
  refine step_shl (by decide) (by decide) h0 h1 ?_
  rw [Int.one_mul]; exact h _ rfl
theorem step_bl (a1 : -115792089237316195423570985008687907853269984665640564039457584007913129639936 ≤ x) (a2 : x ≤ 115792089237316195423570985008687907853269984665640564039457584007913129639936) (h : ∀ n, n = (Builtin.Int.intBits x : Int) → 0 ≤ n → n ≤ 257 → Q (.int n s.toks) { s with toks := s.toks + 1 }) : wpAny (model prog w) A (call (.builtin "int.bit_length") [.int x t]) Q E s := by
  refine PyProof.Rows.call_int_bit_length (h _ rfl (by omega) ?_)
  have := bits_le a1 a2
  omega
end
end My
local macro_rules | `(tactic| walk_at "binaryOp Mod int int") => `(tactic| (k_here; (with_reducible refine' My.step_modE ?k1 ?_); (case k1 => k_dflt omega)))
local macro_rules | `(tactic| walk_at "binaryOp RShift int int") => `(tactic| (k_here; (with_reducible refine' My.step_shrQ ?k1 ?k2 ?_); (case k1 => k_dflt omega); (case k2 => k_dflt omega); intro q' eq' q0' q1'))
local macro_rules | `(tactic| walk_at "binaryOp LShift int int") => `(tactic| (k_here; (with_reducible refine' My.step_keep ?k0 ?k1 ?k2 ?k3 ?k4 ?k5 ?_); (case k0 => k_dflt assumption); (case k1 => k_dflt omega); (case k2 => k_dflt omega); (case k3 => k_dflt omega); (case k4 => k_dflt omega); (case k5 => k_dflt omega); intro p' ep' p0' p1'))
local macro_rules | `(tactic| walk_at "binaryOp LShift int int") => `(tactic| (k_here; (with_reducible show wpAny _ _ (binaryOp Operator.LShift (Value.int 1 _) (Value.int _ _)) _ _ _); k_dflt (refine' My.step_unit ?k1 ?k2 ?_; (case k1 => omega); (case k2 => omega)); intro u' eu'))
local macro_rules | `(tactic| walk_at "binaryOp LShift int int") => `(tactic| (k_here; (with_reducible show wpAny _ _ (binaryOp Operator.LShift (Value.int _ _) (Value.int 1 _)) _ _ _); k_dflt (refine' My.step_shl1 ?k1 ?k2 ?_; (case k1 => omega); (case k2 => omega))))
local macro_rules | `(tactic| walk_at "binaryOp LShift int int") => `(tactic| (k_here; (with_reducible show wpAny _ _ (binaryOp Operator.LShift (Value.int _ _) (Value.int 52 _)) _ _ _); k_dflt (refine' My.step_shl52 ?k1 ?k2 ?_; (case k1 => omega); (case k2 => omega))))
local macro_rules | `(tactic| walk_at "call builtin:int.bit_length") => `(tactic| (k_here; (with_reducible refine' My.step_bl ?k1 ?k2 ?_); (case k1 => k_dflt omega); (case k2 => k_dflt omega); intro n' en' n0' n1'))
local macro_rules | `(tactic| walk_at "eval Call") => `(tactic| (k_here; (with_reducible show wpAny _ _ (eval (Expr.Call (Expr.Name (Str.ofString "as_told") _) _ _ _) _) _ _ _); k_dflt (refine Call_ ?_)))
local macro_rules | `(tactic| walk_at "eval Call") => `(tactic| (k_here; (with_reducible show wpAny _ _ (eval (Expr.Call (Expr.Name (Str.ofString "as_signed") _) _ _ _) _) _ _ _); k_dflt (refine Call_ ?_)))
local macro_rules | `(tactic| walk_at "eval Call") => `(tactic| (k_here; (with_reducible show wpAny _ _ (eval (Expr.Call (Expr.Name (Str.ofString "double_of_size") _) _ _ _) _) _ _ _); k_dflt (refine Call_ ?_)))
local macro_rules | `(tactic| walk_at "eval Call") => `(tactic| (k_here; (with_reducible show wpAny _ _ (eval (Expr.Call (Expr.Name (Str.ofString "leading_bits") _) _ _ _) _) _ _ _); k_dflt (refine Call_ ?_)))
local macro_rules | `(tactic| walk_at "eval Call") => `(tactic| (k_here; (with_reducible show wpAny _ _ (eval (Expr.Call (Expr.Name (Str.ofString "rounded_off") _) _ _ _) _) _ _ _); k_dflt (refine Call_ ?_)))
set_option maxRecDepth 100000 in
set_option maxHeartbeats 8000000 in
theorem PySem.Challenge.cw_widewhole_s06_double_holds : PySem.Challenge.rw_widewhole_s06_double.Holds := by
  k_with "tree" => (first | exact My.sgn_a (by omega) | exact My.sgn_b (by omega) | exact My.told_1 (by omega) | exact My.told_0 (by omega) | exact My.dsz_0 (by omega) | exact My.dsz_n (by assumption) (by omega) | exact My.ldb_a (by assumption) (by omega) | exact My.ldb_b (by assumption) (by omega) | exact My.rnd_up (by assumption) (by assumption) (by assumption) (by omega) | exact My.rnd_dn (by assumption) (by assumption) (by assumption) (by omega))
  k_with "fact as_signed" => exact My.sgn_fact
  k_with "fact as_told" => exact My.told_fact
  k_with "call ref" => k_call_rec "as_signed" My.sgn (fun (_ : Int) => True) (fun (_ : Int) => 0)
  k_with "call ref" => k_call_rec "as_told" My.told (fun (_ _ : Int) => True) (fun (_ _ : Int) => 3)
  k_with "call ref" => k_call_rec "rounded_off" My.rnd (fun (s d : Int) => 0 ≤ s ∧ s ≤ 340282366920938463463374607431768211456 ∧ 0 ≤ d ∧ d ≤ 257) (fun (_ _ : Int) => 0)
  k_with "call ref" => k_call_rec "leading_bits" My.ldb (fun (s w : Int) => 0 ≤ s ∧ s ≤ 340282366920938463463374607431768211456 ∧ 0 ≤ w ∧ w ≤ 257) (fun (_ _ : Int) => 3)
  k_with "call ref" => k_call_rec "double_of_size" My.dsz (fun (s : Int) => 0 ≤ s ∧ s ≤ 340282366920938463463374607431768211456) (fun (_ : Int) => 6)
  w_on; k_headS; (case hw => exact ⟨[.int 0, .int 0], by decide +kernel, by decide +kernel⟩); w_strict (k_goS0; (with_reducible rename OpenSpec.pre _ _ = true => osP); (have osB := My.bounds osP); (all_goals try k_fold); k_steps; (all_goals (try (w_end; sp_is; wrow_close))); (all_goals (try k_data)); all_goals first | sp_left | w_report)
  all_goals first
    | exact My.end_neg hpre (by omega)
    | exact My.end_pos hpre (by omega)
#print axioms PySem.Challenge.cw_widewhole_s06_double_holds
