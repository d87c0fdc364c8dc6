import PyProof.Rows.All
import KE.OsGo
import KE.OsArgs
import PySem.Challenge.RW_widewhole_s04_product
set_option Elab.async false
namespace My
open PySem
theorem p127 : (2:Int) ^ 127 = 170141183460469231731687303715884105728 := by decide
theorem p127n : (2:Nat) ^ 127 = 170141183460469231731687303715884105728 := by decide
theorem W_lit : Sf02.W = 340282366920938463463374607431768211456 := by decide
/- bytes, the lowest first -/
def by8 (z : Int) (n : Nat) : List Int := (List.range n).map fun (k : Nat) => z / 256 ^ k % 256
theorem told_le (n k : Nat) : Sf02Neutral.bytesTold (Sf02.le k n) = by8 (n : Int) k := by
  unfold Sf02Neutral.bytesTold Sf02.le by8
  rw [List.map_map]
  apply List.map_congr_left
  intro i _
  show ((UInt8.ofNat (n / 256 ^ i % 256)).toNat : Int) = _
  have e : (UInt8.ofNat (n / 256 ^ i % 256)).toNat = n / 256 ^ i % 256 := by
    rw [UInt8.toNat_ofNat']; exact Nat.mod_mod _ _
  rw [e]; simp
theorem pmod (z : Int) {p m : Int} (hp : 0 < p) (hm : 0 < m) : (z % (p * m)) / p = z / p % m := by
  have hne : p ≠ 0 := by omega
  have e : z = z % (p * m) + p * (m * (z / (p * m))) := by
    have := Int.emod_add_mul_ediv z (p * m)
    rw [Int.mul_assoc] at this; omega
  have e2 : z / p = (z % (p * m)) / p + m * (z / (p * m)) := by
    conv => lhs; rw [e]
    rw [Int.add_mul_ediv_left _ _ hne]
  have h0 : 0 ≤ z % (p * m) := Int.emod_nonneg _ (by have := Int.mul_pos hp hm; omega)
  have h1 : z % (p * m) < p * m := Int.emod_lt_of_pos _ (Int.mul_pos hp hm)
  rw [e2, Int.add_mul_emod_self_left, Int.emod_eq_of_lt (Int.ediv_nonneg h0 (by omega)) (Int.ediv_lt_of_lt_mul hp (by rw [Int.mul_comm m p]; exact h1))]
theorem by8_mod (z : Int) (n : Nat) : by8 (z % 256 ^ n) n = by8 z n := by
  unfold by8
  apply List.map_congr_left
  intro k hk
  have hk' : k < n := List.mem_range.mp hk
  have e : (256:Int) ^ n = 256 ^ k * 256 ^ (n - k) := by rw [← Int.pow_add]; congr 1; omega
  have e3 : (256:Int) ^ (n - k) = 256 * 256 ^ (n - k - 1) := by
    have : n - k = (n - k - 1) + 1 := by omega
    conv => lhs; rw [this, Int.pow_succ]
    rw [Int.mul_comm]
  rw [e, pmod z (Int.pow_pos (by decide)) (Int.pow_pos (by decide)), e3, Int.emod_emod_of_dvd _ ⟨_, rfl⟩]
theorem told_bits (z : Int) : Sf02Neutral.bytesTold (Sf02.le 16 (Sf02.bits z)) = by8 z 16 := by
  rw [told_le]
  have e : ((Sf02.bits z : Nat) : Int) = z % 256 ^ 16 := by
    unfold Sf02.bits
    rw [W_lit]
    have : (256:Int) ^ 16 = 340282366920938463463374607431768211456 := by decide
    rw [this]; omega
  rw [e, by8_mod]
theorem by8_congr {z y : Int} {n : Nat} (h : z % 256 ^ n = y % 256 ^ n) : by8 z n = by8 y n := by
  rw [← by8_mod z, h, by8_mod]

def sgn (x : Int) : Int := if 170141183460469231731687303715884105728 ≤ x then x - 340282366920938463463374607431768211456 else x
def fitS (x : Int) : Bool := decide (-170141183460469231731687303715884105728 ≤ x) && decide (x < 170141183460469231731687303715884105728)
def fitP (x : Int) : Bool := decide (0 ≤ x) && decide (x < 340282366920938463463374607431768211456)
theorem mod_W {x : Int} (h0 : 0 ≤ x) (h1 : x ≤ 340282366920938463463374607431768211455) : x.toNat % Sf02.W = x.toNat := by
  rw [W_lit]; omega
theorem mod_Wi {x : Int} (h0 : 0 ≤ x) (h1 : x ≤ 340282366920938463463374607431768211455) : (((x.toNat % Sf02.W : Nat)) : Int) = x := by
  rw [W_lit]; omega
theorem signed_eq {x : Int} (h0 : 0 ≤ x) (h1 : x ≤ 340282366920938463463374607431768211455) : Sf02.signed x.toNat = sgn x := by
  have e := mod_Wi h0 h1
  unfold Sf02.signed sgn
  rw [e, p127n]
  rw [W_lit] at *
  split <;> split <;> omega
theorem fits_S (z : Int) : Sf02.fits false z = fitS z := by
  unfold Sf02.fits fitS
  rw [p127]; rfl
theorem fits_P (z : Int) : Sf02.fits true z = fitP z := by
  unfold Sf02.fits fitP
  rw [W_lit]; rfl
end My
namespace My
theorem product_eq {a b : Int} (a0 : 0 ≤ a) (a1 : a ≤ 340282366920938463463374607431768211455) (b0 : 0 ≤ b) (b1 : b ≤ 340282366920938463463374607431768211455) :
    PySf02.product a b = 0 :: 32 :: by8 (a * b) 32 := by
  show 0 :: (Sf02Neutral.listed (Sf02Neutral.bytesTold (Sf02.le 32 ((a.toNat % Sf02.W) * (b.toNat % Sf02.W)))) ++ []) = _
  have e : (((a.toNat % Sf02.W) * (b.toNat % Sf02.W) : Nat) : Int) = a * b := by
    rw [Int.natCast_mul, mod_Wi a0 a1, mod_Wi b0 b1]
  rw [told_le, e, List.append_nil]
  rfl
theorem spec_divide (n d : Nat) : Sf02.spec (.divide n d) = (if d = 0 then Sf02.says (-1) else if Sf02.W ≤ n / d then Sf02.says 1 else ⟨0, [Sf02.le 16 (n / d), Sf02.le 16 (n % d)]⟩) := rfl
theorem divide_open (n d : Int) : PySf02.divide n d = Sf02Neutral.listOf (Sf02.spec (.divide n.toNat d.toNat)) := rfl
theorem divide_zero {n : Int} : PySf02.divide n 0 = [-1] := rfl
theorem divide_wide {n d : Int} (n0 : 0 ≤ n) (d0 : 0 < d) (h : 340282366920938463463374607431768211456 ≤ n / d) : PySf02.divide n d = [1] := by
  rw [divide_open, spec_divide, if_neg (by omega), if_pos]
  · rfl
  · rw [W_lit]
    have e : ((n.toNat / d.toNat : Nat) : Int) = n / d := by
      rw [Int.natCast_ediv, Int.toNat_of_nonneg n0, Int.toNat_of_nonneg (by omega)]
    omega
theorem divide_fits {n d : Int} (n0 : 0 ≤ n) (d0 : 0 < d) (h : n / d < 340282366920938463463374607431768211456) :
    PySf02.divide n d = 0 :: 16 :: (by8 (n / d) 16 ++ 16 :: by8 (n % d) 16) := by
  have e : ((n.toNat / d.toNat : Nat) : Int) = n / d := by
    rw [Int.natCast_ediv, Int.toNat_of_nonneg n0, Int.toNat_of_nonneg (by omega)]
  have e2 : ((n.toNat % d.toNat : Nat) : Int) = n % d := by
    rw [Int.natCast_emod, Int.toNat_of_nonneg n0, Int.toNat_of_nonneg (by omega)]
  rw [divide_open, spec_divide, if_neg (by omega), if_neg (by rw [W_lit]; omega)]
  show 0 :: (Sf02Neutral.listed (Sf02Neutral.bytesTold (Sf02.le 16 (n.toNat / d.toNat))) ++ (Sf02Neutral.listed (Sf02Neutral.bytesTold (Sf02.le 16 (n.toNat % d.toNat))) ++ [])) = _
  rw [told_le, told_le, e, e2, List.append_nil]
  rfl
end My
namespace My
open PySem PySem.W PySem.Calls PyProof.Rows
set_option maxRecDepth 100000 in
theorem said : PySem.Challenge.rw_widewhole_s04_product.wellSaid = true := by decide +kernel
theorem in2 {l1 h1 l2 h2 x y : Int} {u : Unit} (w : Codec.withinAll [.int l1 h1, .int l2 h2] (x, y, u) = true) : (l1 ≤ x ∧ x ≤ h1) ∧ l2 ≤ y ∧ y ≤ h2 := by
  have w' : (Codec.inInt l1 h1 x && (Codec.inInt l2 h2 y && true)) = true := w
  simp only [Codec.inInt, Bool.and_eq_true, decide_eq_true_eq] at w'
  exact ⟨w'.1, w'.2.1⟩
theorem bounds {a b : Int} (h : PySem.Challenge.rw_widewhole_s04_product.pre [.int a, .int b] = true) : 0 ≤ a ∧ a ≤ 340282366920938463463374607431768211455 ∧ 0 ≤ b ∧ b ≤ 340282366920938463463374607431768211455 := by
  obtain ⟨v, w, q, e⟩ := os_pre said h
  obtain ⟨x, y, u⟩ := v
  have e1 := os_j_int (List.cons.inj e).1
  have e2 := os_j_int (List.cons.inj (List.cons.inj e).2).1
  subst e1 e2
  have b := in2 w
  exact ⟨b.1.1, b.1.2, b.2.1, b.2.2⟩
theorem fin1 {a b : Int} {l : List Int} (hp : PySem.Challenge.rw_widewhole_s04_product.pre [.int a, .int b] = true) (h : PySf02.product a b = l) : PySem.Challenge.rw_widewhole_s04_product.post [.int a, .int b] (ofPy (PyData.list (l.map PyData.int))) = true := by
  obtain ⟨v, w, q, e⟩ := os_pre said hp
  obtain ⟨x, y, u⟩ := v
  have e1 := os_j_int (List.cons.inj e).1
  have e2 := os_j_int (List.cons.inj (List.cons.inj e).2).1
  subst e1 e2
  refine os_shut said w ?_
  show _ = WData.list ((PySf02.product a b).map WData.int)
  rw [h]
  exact os_list rfl
theorem fin2 {a b : Int} {l : List Int} (hp : PySem.Challenge.rw_widewhole_s04_product.pre [.int a, .int b] = true) (h : PySf02.product a b = l) : PySem.Challenge.rw_widewhole_s04_product.post [.int a, .int b] (WData.list (ofPys (l.map PyData.int))) = true := by
  have f := fin1 hp h
  rw [os_list rfl] at f
  rw [os_ofPys_ints]
  exact f
end My
namespace My
open PySem PySem.W PySem.Calls PyProof.Rows
theorem bits_le {k : Int} (h1 : -115792089237316195423570985008687907853269984665640564039457584007913129639936 ≤ k) (h2 : k ≤ 115792089237316195423570985008687907853269984665640564039457584007913129639936) : Builtin.Int.intBits k ≤ 257 := by
  unfold Builtin.Int.intBits
  split
  · exact Nat.zero_le _
  · have hn : k.natAbs < 2 ^ 257 := by
      have e : (2:Nat)^257 = 231584178474632390847141970017375815706539969331281128078915168015826259279872 := by decide
      omega
    have : k.natAbs.log2 < 257 := by
      rcases Nat.eq_zero_or_pos k.natAbs with h0 | hp
      · rw [h0]; decide
      · exact (Nat.log2_lt (Nat.ne_of_gt hp)).mpr hn
    omega
theorem log_le {k : Int} (h1 : -115792089237316195423570985008687907853269984665640564039457584007913129639936 ≤ k) (h2 : k ≤ 115792089237316195423570985008687907853269984665640564039457584007913129639936) : k.natAbs.log2 < 9000 := by
  have hn : k.natAbs < 2 ^ 257 := by
    have e : (2:Nat)^257 = 231584178474632390847141970017375815706539969331281128078915168015826259279872 := by decide
    omega
  have : k.natAbs.log2 < 257 := by
    rcases Nat.eq_zero_or_pos k.natAbs with h0 | hp
    · rw [h0]; decide
    · exact (Nat.log2_lt (Nat.ne_of_gt hp)).mpr hn
  omega
theorem walk8 (z : Int) (n : Nat) : List.map (fun k' => Builtin.bitAnd (z.fdiv (2 ^ (8 * k').toNat)) 255) (rangeKs 0 n) = by8 z n := by
  unfold rangeKs by8
  rw [List.map_map]
  apply List.map_congr_left
  intro k _
  show Builtin.bitAnd (z.fdiv (2 ^ (8 * (0 + (k : Int))).toNat)) 255 = z / 256 ^ k % 256
  have e : (8 * (0 + (k : Int))).toNat = 8 * k := by omega
  have m : Builtin.bitAnd (z.fdiv (2 ^ (8 * k))) 255 = z.fdiv (2 ^ (8 * k)) % 256 := kbt_mask _ 8
  rw [e, m, Int.fdiv_eq_ediv_of_nonneg _ (Int.le_of_lt (Int.pow_pos (by decide))), Int.pow_mul]
  rfl
theorem sgn_fact (x : Int) : (170141183460469231731687303715884105728 ≤ x ∧ sgn x = x - 340282366920938463463374607431768211456) ∨ (x < 170141183460469231731687303715884105728 ∧ sgn x = x) := by
  unfold sgn; split <;> omega
theorem sgn_a {x : Int} (h : 170141183460469231731687303715884105728 ≤ x) : x - 340282366920938463463374607431768211456 = sgn x := by unfold sgn; rw [if_pos h]
theorem sgn_b {x : Int} (h : x < 170141183460469231731687303715884105728) : x = sgn x := by unfold sgn; rw [if_neg (by omega)]
theorem fitS_a {x : Int} (h : x < -170141183460469231731687303715884105728) : decide (-170141183460469231731687303715884105728 ≤ x) = fitS x := by
  unfold fitS; rw [decide_eq_false (by omega)]; rfl
theorem fitS_b {x : Int} (h : -170141183460469231731687303715884105728 ≤ x) : decide (x < 170141183460469231731687303715884105728) = fitS x := by
  unfold fitS; rw [decide_eq_true h]; rfl
theorem fitP_a {x : Int} (h : x < 0) : decide (0 ≤ x) = fitP x := by
  unfold fitP; rw [decide_eq_false (by omega)]; rfl
theorem fitP_b {x : Int} (h : 0 ≤ x) : decide (x < 340282366920938463463374607431768211456) = fitP x := by
  unfold fitP; rw [decide_eq_true h]; rfl
section
variable {prog : Program} {w : World} {A : Around} {E : Value → Shared → Prop} {s : Shared} {x y : Int} {t u : Tok} {Q : Value → Shared → Prop}
theorem step_mul (a1 : -115792089237316195423570985008687907853269984665640564039457584007913129639936 ≤ x) (a2 : x ≤ 115792089237316195423570985008687907853269984665640564039457584007913129639936) (b1 : -115792089237316195423570985008687907853269984665640564039457584007913129639936 ≤ y) (b2 : y ≤ 115792089237316195423570985008687907853269984665640564039457584007913129639936) (h : Q (.int (x * y) s.toks) { s with toks := s.toks + 1 }) : wpAny (model prog w) A (binaryOp .Mult (.int x t) (.int y u)) Q E s :=
  PyProof.Rows.mul_int h (PySem.IntMulOk.of_bits (Nat.le_trans (bits_le a1 a2) (by decide)) (Nat.le_trans (bits_le b1 b2) (by decide)))
theorem step_div (hb : y ≠ 0) (b1 : -115792089237316195423570985008687907853269984665640564039457584007913129639936 ≤ y) (b2 : y ≤ 115792089237316195423570985008687907853269984665640564039457584007913129639936) (h : Q (.int (x.fdiv y) s.toks) { s with toks := s.toks + 1 }) : wpAny (model prog w) A (binaryOp .FloorDiv (.int x t) (.int y u)) Q E s :=
  PyProof.Rows.floordiv_int hb h (Or.inl (PyProof.noPylong_of_log2 (log_le b1 b2)))
theorem step_mod (hb : y ≠ 0) (h : Q (.int (x.fmod y) s.toks) { s with toks := s.toks + 1 }) : wpAny (model prog w) A (binaryOp .Mod (.int x t) (.int y u)) Q E s :=
  PyProof.Rows.mod_int hb h
theorem step_shl (a1 : -115792089237316195423570985008687907853269984665640564039457584007913129639936 ≤ x) (a2 : x ≤ 115792089237316195423570985008687907853269984665640564039457584007913129639936) (h0 : 0 ≤ y) (h1 : y ≤ 3000) (h : Q (.int (x * 2 ^ y.toNat) s.toks) { s with toks := s.toks + 1 }) : wpAny (model prog w) A (binaryOp .LShift (.int x t) (.int y u)) Q E s := by
  refine PyProof.Rows.lshift_int h0 ?_ h
  have := bits_le a1 a2
  have e : (2:Int)^27 = 134217728 := by decide
  omega
theorem step_shr (h0 : 0 ≤ y) (h : Q (.int (x.fdiv (2 ^ y.toNat)) s.toks) { s with toks := s.toks + 1 }) : wpAny (model prog w) A (binaryOp .RShift (.int x t) (.int y u)) Q E s :=
  PyProof.Rows.rshift_int h0 h
end
end My
open PySem PySem.W PyProof.Rows
local macro_rules | `(tactic| walk_at "binaryOp Mult int int") => `(tactic| (k_here; (with_reducible refine' My.step_mul ?k1 ?k2 ?k3 ?k4 ?_); (case k1 => k_dflt omega); (case k2 => k_dflt omega); (case k3 => k_dflt omega); (case k4 => k_dflt omega)))
local macro_rules | `(tactic| walk_at "binaryOp FloorDiv int int") => `(tactic| (k_here; (with_reducible refine' My.step_div ?k1 ?k2 ?k3 ?_); (case k1 => k_dflt omega); (case k2 => k_dflt omega); (case k3 => k_dflt omega)))
local macro_rules | `(tactic| walk_at "binaryOp Mod int int") => `(tactic| (k_here; (with_reducible refine' My.step_mod ?k1 ?_); (case k1 => k_dflt omega)))
local macro_rules | `(tactic| walk_at "binaryOp LShift int int") => `(tactic| (k_here; (with_reducible refine' My.step_shl ?k1 ?k2 ?k3 ?k4 ?_); (case k1 => k_dflt omega); (case k2 => k_dflt omega); (case k3 => k_dflt omega); (case k4 => k_dflt omega)))
local macro_rules | `(tactic| walk_at "binaryOp RShift int int") => `(tactic| (k_here; (with_reducible refine' My.step_shr ?k1 ?_); (case k1 => k_dflt omega)))
namespace My
open PySem PySem.W PySem.Calls PyProof.Rows
theorem end_prod {a b : Int} (hp : PySem.Challenge.rw_widewhole_s04_product.pre [.int a, .int b] = true) : PySem.Challenge.rw_widewhole_s04_product.post [.int a, .int b] (WData.list (ofPys (List.map PyData.int ([0, 32] ++ List.map (fun k' => Builtin.bitAnd ((a * b).fdiv (2 ^ (8 * k').toNat)) 255) (rangeKs 0 ((32 : Int) - 0).toNat))))) = true := by
  have B := bounds hp
  refine fin2 hp ?_
  rw [product_eq B.1 B.2.1 B.2.2.1 B.2.2.2, walk8]; rfl
end My
set_option maxRecDepth 100000 in
set_option maxHeartbeats 8000000 in
theorem PySem.Challenge.cw_widewhole_s04_product_holds : PySem.Challenge.rw_widewhole_s04_product.Holds := by
  w_on; k_headS; (case hw => exact ⟨[.int 0, .int 0], by decide +kernel, by decide +kernel⟩); w_strict (k_goS0; (with_reducible rename OpenSpec.pre _ _ = true => osP); (have osB := My.bounds osP); (all_goals try k_fold); k_steps; (all_goals (try (w_end; sp_is; wrow_close))); (all_goals (try k_data)); all_goals first | sp_left | w_report)
  all_goals exact My.end_prod hpre
#print axioms PySem.Challenge.cw_widewhole_s04_product_holds
