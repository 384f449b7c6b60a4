import Derived.Test.YtjmdhfjemaoebaaGreatM01x17
import Derived.Test.YtjmdhfjemaoebaaGreatM01x15
import Derived.Test.YtjmdhfjemaoebaaGreatM01x12
import Derived.Test.YtjmdhfjemaoebaaGreatM01x23
import Derived.Test.YtjmdhfjemaoebaaGreatM01x19
namespace Go.Proofs.YtjmdhfjemaoebaaGreat
set_option maxRecDepth 20000
open Go.RowKit Go.Am
theorem append_room {env : List AV} {rows : List Row} {ctr low τ ver n c m r : Nat} {zs ws : List Int} {cells : List AV} {k : AV → St → Prop} (hr : rows[τ]? = some ⟨ver, 3, 1, zs.map (.int .i64) ++ List.replicate r (.int .i64 0)⟩) (hc : cells = ws.map (.int .i64)) (hm : m = ws.length) (hn : n = zs.length) (hpos : 0 < ws.length) (hle : ws.length ≤ r)
    (hk : k (.ref τ ver 0 (n + m)) ⟨env, rows.set τ ⟨ver, 3, 1, (zs ++ ws).map (.int .i64) ++ List.replicate (r - ws.length) (.int .i64 0)⟩, ctr, low⟩) : aAppend Tryz.prog ⟨env, rows, ctr, low⟩ 38 (.ref τ ver 0 n) (.sl c m cells) k := by
  have hb : (bsz Tryz.prog 3) = some 8 := by kernel_rfl
  have hz : zeroCellsA Tryz.prog 3 = some [.int .i64 0] := by kernel_rfl
  have hu : Tryz.prog.underlying 38 = some (.slice 3) := by kernel_rfl
  have hs : ∀ K : Nat → Prop, K 1 → aSz Tryz.prog 3 K := fun K h => by
    have : tsz Tryz.prog 3 = some 1 := by kernel_rfl
    unfold aSz; rw [this]; exact h
  subst hn; subst hm; subst hc
  unfold aAppend
  rw [hu]
  simp only
  rw [hz]
  simp only
  refine hs _ ?_
  unfold aElems aRow
  refine ⟨by simp, ⟨rfl, by rw [hb]; rfl, by rw [hb]; decide⟩, ?_⟩
  simp only [hr]
  rw [if_pos trivial, if_pos (by simp)]
  refine ⟨by simp, fun h => by omega, fun _ _ => ?_, fun _ h => ?_⟩
  · have e1 : (zs.map (AV.int .i64) ++ List.replicate r (AV.int .i64 0)).take (zs.length * 1) = zs.map (.int .i64) := by rw [Nat.mul_one]; exact List.take_left' (by simp)
    have e2 : (zs.map (AV.int .i64) ++ List.replicate r (AV.int .i64 0)).drop (zs.length * 1 + (ws.map (AV.int .i64)).length) = List.replicate (r - ws.length) (AV.int .i64 0) := by
      rw [Nat.mul_one, ← List.drop_drop, List.drop_left' (by simp), List.drop_replicate, List.length_map]
    rw [e1, e2]
    simpa [St.setRow, Row.putC, List.append_assoc] using hk
  · exfalso; simp at h; omega
attribute [local irreducible] aPlan aGet aIf aLoop aCall RetB NextB CallB CallG aCut aSet aAppend
def btL (zs qs : List Int) (A B : Nat) (n : Nat) : List Int := (List.range n).flatMap fun i => (zs.drop (i * A)).take A ++ (qs.drop (i * B)).take B
theorem btL_succ (zs qs : List Int) (A B k : Nat) : btL zs qs A B (k + 1) = btL zs qs A B k ++ ((zs.drop (k * A)).take A ++ (qs.drop (k * B)).take B) := by
  unfold btL; rw [List.range_succ, List.flatMap_append]; simp
theorem blk_len {zs : List Int} {A k n : Nat} (h : zs.length = n * A) (hk : k < n) : ((zs.drop (k * A)).take A).length = A := by
  have : (k + 1) * A ≤ n * A := Nat.mul_le_mul_right A hk
  rw [Nat.add_mul, Nat.one_mul] at this
  rw [List.length_take, List.length_drop, h]; omega
theorem btL_len {zs qs : List Int} {A B n : Nat} (h1 : zs.length = n * A) (h2 : qs.length = n * B) : ∀ k, k ≤ n → (btL zs qs A B k).length = k * A + k * B
  | 0, _ => by simp [btL]
  | k + 1, hk => by
    rw [btL_succ, List.length_append, List.length_append, btL_len h1 h2 k (by omega), blk_len h1 (by omega), blk_len h2 (by omega), Nat.add_mul, Nat.add_mul]; omega
def sByTurns : CSpec := fnL (ι := Nat × List Int × Nat × Nat × List Int × Nat × Nat) 3 (fun | (c, zs, A, d, qs, B, _) => [.sl c zs.length (zs.map (.int .i64)), .int .i64 (A : Int), .sl d qs.length (qs.map (.int .i64)), .int .i64 (B : Int)]) (fun | (_, zs, A, _, qs, B, n) => zs.length = n * A ∧ qs.length = n * B ∧ (1 ≤ A ∧ A ≤ 64 ∧ 1 ≤ B ∧ B ≤ 64) ∧ n ≤ 64) (fun | (_, zs, A, _, qs, B, n) => btL zs qs A B n)
set_option maxHeartbeats 4000000 in
theorem byTurns_sound : Sound Tryz.prog 187 sByTurns := by
  refine sound_of Tryz.func187 rfl (enters_of Tryz.func187 (by kernel_rfl) (by kernel_rfl)) ?_
  rintro ⟨c, zs, A, d, qs, B, n⟩ hpre
  have hpre : zs.length = n * A ∧ qs.length = n * B ∧ (1 ≤ A ∧ A ≤ 64 ∧ 1 ≤ B ∧ B ≤ 64) ∧ n ≤ 64 := hpre
  obtain ⟨hz, hq, ⟨ha1, ha2, hb1, hb2⟩, hn⟩ := hpre
  have hzl : zs.length ≤ 64 * 64 := by rw [hz]; exact Nat.mul_le_mul hn ha2
  have hql : qs.length ≤ 64 * 64 := by rw [hq]; exact Nat.mul_le_mul hn hb2
  have hw : IntKind.i64.wrap ((zs.length : Int) + qs.length) = zs.length + qs.length := IntWalk.i64_in _ (by omega)
  have hdiv : (zs.length : Int).tdiv A = n := by
    rw [hz, Int.natCast_mul, Int.mul_tdiv_cancel _ (by omega)]
  have hw2 : IntKind.i64.wrap ((zs.length : Int).tdiv A) = n := by rw [hdiv]; exact IntWalk.i64_in _ (by omega)
  have hmax : maxLen = 9223372036854775807 := rfl
  have hlen := btL_len hz hq
  conv => whnf
  repeat' (first
    | ((first | refine And.intro (And.intro (show (0 : Int) ≤ _ by omega) (And.intro (by kernel_rfl) (And.intro rfl (by kernel_rfl)))) (And.intro (And.intro (by omega) (And.intro (bytes_le (b := 8) rfl (by omega)) (by omega))) ?_) | refine fun (_ : _ ≤ maxLen) => ?_ | refine And.intro (by omega) ?_ | refine append_same ?_); conv => whnf))
  refine loop_u (ι := Nat) [true, true, true, true, false, false, false, false, false, true, false, false, false, false, false, false, false, false, false, false, true, true, false, false, false, false, false, false, false, false, false, false, false, false, false, false, false, false, false, false, false, false, false, false, false, false, false, false] (fun k => [(9, .ref 1 2 0 (btL zs qs A B k).length), (21, .int .i64 k)]) (fun k => [(1, (btL zs qs A B k).map (.int .i64) ++ List.replicate (zs.length + qs.length - (btL zs qs A B k).length) (.int .i64 0))]) (fun k => k ≤ n) (fun k => n - k) (0) (Nat.zero_le _) ?_ ?_
  · conv => whnf
    have e : IntKind.i64.wrap ((zs.length : Int) + qs.length) = ((zs.length + qs.length : Nat) : Int) := hw
    repeat' (first | exact le_cells (by rw [e]; simp [btL]; rfl) (pureL_app (pureL_ints _ _) (pureL_rep _ rfl _)) | refine And.intro ?_ ?_)
    repeat' (first
      | exact trivial | exact rfl
      | exact pureL_ints _ _ | exact Or.inl (And.intro rfl rfl)
      | exact Nat.le_of_ble_eq_true rfl)
  · intro k hk
    have hk : k ≤ n := hk
    by_cases hlt : k < n
    · have h1 := blk_len hz hlt
      have h2 := blk_len hq hlt
      have h3 := hlen (k + 1) hlt
      have h4 := hlen k hk
      have pA : k * A + A ≤ zs.length := by rw [hz, ← Nat.succ_mul]; exact Nat.mul_le_mul_right A hlt
      have pB : k * B + B ≤ qs.length := by rw [hq, ← Nat.succ_mul]; exact Nat.mul_le_mul_right B hlt
      have sA : (k + 1) * A = k * A + A := Nat.succ_mul _ _
      have sB : (k + 1) * B = k * B + B := Nat.succ_mul _ _
      have w0 : IntKind.i64.wrap ((k : Int) + 1) = ((k + 1 : Nat) : Int) := (IntWalk.i64_in _ (by omega)).trans (by omega)
      have w1 : IntKind.i64.wrap ((k : Int) * A) = ((k * A : Nat) : Int) := by rw [← Int.natCast_mul]; exact IntWalk.i64_in _ (by omega)
      have w2 : IntKind.i64.wrap (IntKind.i64.wrap ((k : Int) + 1) * A) = ((k * A + A : Nat) : Int) := by rw [w0, ← Int.natCast_mul, sA]; exact IntWalk.i64_in _ (by omega)
      have w3 : IntKind.i64.wrap ((k : Int) * B) = ((k * B : Nat) : Int) := by rw [← Int.natCast_mul]; exact IntWalk.i64_in _ (by omega)
      have w4 : IntKind.i64.wrap (IntKind.i64.wrap ((k : Int) + 1) * B) = ((k * B + B : Nat) : Int) := by rw [w0, ← Int.natCast_mul, sB]; exact IntWalk.i64_in _ (by omega)
      conv => whnf
      repeat' (first
        | ((first | refine And.intro (by omega) ?_ | refine And.intro (by rw [List.length_map]; omega) ?_ | refine append_same ?_); conv => whnf) | (refine aIf_dec (fun _ => ?_) (fun _ => ?_) <;> conv => whnf))
      all_goals (first | (exfalso; omega) | skip)
      refine append_room (zs := btL zs qs A B k) (ws := (zs.drop (k * A)).take A) rfl (by rw [w1, w2, Int.toNat_natCast, Int.toNat_natCast, Nat.mul_one, Nat.mul_one, Nat.add_sub_cancel_left, ← List.map_drop, ← List.map_take]) (by rw [w1, w2, h1]; omega) rfl (by omega) (by omega) ?_
      conv => whnf
      repeat' (first
        | ((first | refine And.intro (by omega) ?_ | refine And.intro (by rw [List.length_map]; omega) ?_ | refine append_same ?_); conv => whnf))
      refine append_room (zs := btL zs qs A B k ++ (zs.drop (k * A)).take A) (ws := (qs.drop (k * B)).take B) rfl (by rw [w3, w4, Int.toNat_natCast, Int.toNat_natCast, Nat.mul_one, Nat.mul_one, Nat.add_sub_cancel_left, ← List.map_drop, ← List.map_take]) (by rw [w3, w4, h2]; omega) (by rw [List.length_append, w1, w2, h1]; omega) (by omega) (by omega) ?_
      conv => whnf
      repeat' (first
        | (refine append_same ?_; conv => whnf))
      have eL : btL zs qs A B k ++ (zs.drop (k * A)).take A ++ (qs.drop (k * B)).take B = btL zs qs A B (k + 1) := by rw [btL_succ, List.append_assoc]
      have eR : zs.length + qs.length - (btL zs qs A B k).length - A - B = zs.length + qs.length - (btL zs qs A B (k + 1)).length := by rw [h3, h4]; omega
      have eRow : (btL zs qs A B k ++ (zs.drop (k * A)).take A ++ (qs.drop (k * B)).take B).map (AV.int .i64) ++ List.replicate (zs.length + qs.length - (btL zs qs A B k).length - ((zs.drop (k * A)).take A).length - ((qs.drop (k * B)).take B).length) (AV.int .i64 0) = (btL zs qs A B (k + 1)).map (AV.int .i64) ++ List.replicate (zs.length + qs.length - (btL zs qs A B (k + 1)).length) (AV.int .i64 0) := by rw [eL, h1, h2, eR]
      refine next_u (k + 1) (by omega) (by show k + 1 ≤ n; omega) ?_
      conv => whnf
      repeat' (first | exact le_cells eRow (pureL_app (pureL_ints _ _) (pureL_rep _ rfl _)) | (rw [h3, h4, w1, w2, w3, w4]; omega) | refine And.intro ?_ ?_)
      repeat' (first
        | exact trivial | exact rfl
        | exact pureL_ints _ _ | exact Or.inl (And.intro rfl rfl)
        | exact Nat.le_of_ble_eq_true rfl | exact int_eq (by assumption))
    · have e : k = n := by omega
      have h4 := hlen k hk
      have e0 : zs.length + qs.length - (btL zs qs A B k).length = 0 := by rw [h4, e, hz, hq]; omega
      conv => whnf
      repeat' (first
        | ((first | refine And.intro (by omega) ?_ | refine append_same ?_); conv => whnf) | (refine aIf_dec (fun _ => ?_) (fun _ => ?_) <;> conv => whnf))
      all_goals (first | (exfalso; omega) | skip)
      rw [e0, e]
      exact retL rfl rfl (by simp) rfl
end Go.Proofs.YtjmdhfjemaoebaaGreat
namespace Go.Proofs.YtjmdhfjemaoebaaGreat
set_option maxRecDepth 20000
open Go.RowKit Go.Am
attribute [local irreducible] aPlan aGet aIf aLoop aCall RetB NextB CallB CallG aCut aSet aAppend
def bsPick (zs qs : List Int) (r : Bool × Int) : Int := if r.1 = true then zs.getD r.2.toNat 0 else qs.getD r.2.toNat 0
def bsP (xs zs ps qs : List Int) (i : Int) : Prop := tensorOk xs zs = true ∧ tensorOk ps qs = true ∧ (0 ≤ i ∧ i < xs.length) ∧ ps = xs.set i.toNat (ps.getD i.toNat 0) ∧ xs.getD i.toNat 0 + ps.getD i.toNat 0 ≤ 4
instance (xs zs ps qs : List Int) (i : Int) : Decidable (bsP xs zs ps qs i) := by unfold bsP; infer_instance
def bsL (xs zs qs : List Int) (a : Nat) (p : Int) : List Int := (List.range (cntTo (bsSh xs a p) (bsSh xs a p).length).toNat).map fun i => bsPick zs qs (bsRef xs a p i)
def bsM (xs zs ps qs : List Int) (i : Int) : TM := if bsP xs zs ps qs i then (bsSh xs i.toNat (ps.getD i.toNat 0), bsL xs zs qs i.toNat (ps.getD i.toNat 0), true) else noT
theorem bsM_t {xs zs ps qs : List Int} {a : Nat} (h : bsP xs zs ps qs a) : bsM xs zs ps qs a = (bsSh xs a (ps.getD a 0), bsL xs zs qs a (ps.getD a 0), true) := by unfold bsM; rw [if_pos h, Int.toNat_natCast]
theorem bsM_f {xs zs ps qs : List Int} {i : Int} (h : ¬ bsP xs zs ps qs i) : bsM xs zs ps qs i = noT := if_neg h
theorem bsSh_length (xs : List Int) (a : Nat) (p : Int) : (bsSh xs a p).length = xs.length := by simp [bsSh]
theorem blk_map {zs : List Int} {A k n : Nat} (h : zs.length = n * A) (hk : k < n) : (zs.drop (k * A)).take A = (List.range A).map fun j => zs.getD (k * A + j) 0 := by
  refine getD_ext (by rw [blk_len h hk]; simp) fun j hj => ?_
  have hj : j < A := by simpa using hj
  have hl := blk_len h hk
  have : (k + 1) * A ≤ n * A := Nat.mul_le_mul_right A hk
  rw [Nat.add_mul, Nat.one_mul, ← h] at this
  rw [range_getD hj]
  simp only [List.getD, List.getElem?_take, List.getElem?_drop]
  rw [if_pos hj]
theorem btL_turn {zs qs : List Int} {A B n : Nat} (hz : zs.length = n * A) (hq : qs.length = n * B) : btL zs qs A B n = (bsTurn A B n).map (bsPick zs qs) := by
  have key : ∀ k, k ≤ n → btL zs qs A B k = (bsTurn A B k).map (bsPick zs qs) := by
    intro k
    induction k with
    | zero => intro _; rfl
    | succ k ih =>
      intro hk
      have e : bsTurn A B (k + 1) = bsTurn A B k ++ (((List.range A).map fun j => (true, ((k * A + j : Nat) : Int))) ++ ((List.range B).map fun j => (false, ((k * B + j : Nat) : Int)))) := by
        unfold bsTurn; rw [List.range_succ, List.flatMap_append]; simp
      rw [btL_succ, ih (by omega), e, List.map_append, List.map_append, List.map_map, List.map_map, blk_map hz (by omega), blk_map hq (by omega)]
      rfl
  exact key n (Nat.le_refl _)
theorem bs_all {xs zs ps qs : List Int} {a : Nat} (ht : tensorOk xs zs = true) (hu : tensorOk ps qs = true) (ha : a < xs.length) (he : ps = xs.set a (ps.getD a 0)) :
    BsFacts xs a (ps.getD a 0) ∧ zs.length = bsN xs a * bsA xs a ∧ qs.length = bsN xs a * bsB xs a (ps.getD a 0) ∧ bsN xs a ≤ 64 ∧ (1 ≤ ps.getD a 0 ∧ ps.getD a 0 ≤ 4) := by
  obtain ⟨hs, t2, -⟩ := (tensorOk_iff _ _).1 ht
  obtain ⟨hs', u2, -⟩ := (tensorOk_iff _ _).1 hu
  have hl : ps.length = xs.length := by rw [he]; simp
  have hp := size_in hs' (show a < ps.length by omega)
  have F := bs_facts hs ha hp
  have hc := cnt64 hs (Nat.le_refl _)
  have e1 : zs.length = bsN xs a * bsA xs a := by have := F.cx; omega
  have e2 : qs.length = bsN xs a * bsB xs a (ps.getD a 0) := by
    have := F.cp
    rw [← he] at this
    omega
  refine ⟨F, e1, e2, ?_, hp⟩
  have h1 := F.ab.1
  have : bsN xs a * 1 ≤ bsN xs a * bsA xs a := Nat.mul_le_mul_left _ h1
  omega
theorem bsL_length (xs zs qs : List Int) (a : Nat) (p : Int) : (bsL xs zs qs a p).length = (cntTo (bsSh xs a p) (bsSh xs a p).length).toNat := by simp [bsL]
theorem bs_told {xs zs ps qs : List Int} {a : Nat} (h : bsP xs zs ps qs a) : tensorOk (bsSh xs a (ps.getD a 0)) (bsL xs zs qs a (ps.getD a 0)) = true ∧ btL zs qs (bsA xs a) (bsB xs a (ps.getD a 0)) (bsN xs a) = bsL xs zs qs a (ps.getD a 0) := by
  obtain ⟨ht, hu, hi, he, hle⟩ := h
  rw [Int.toNat_natCast] at he hle
  have ha : a < xs.length := by omega
  obtain ⟨F, e1, e2, -, -⟩ := bs_all ht hu ha he
  obtain ⟨g1, g2, g3⟩ := F.good hle
  have hc := cnt64 g1 (Nat.le_refl _)
  obtain ⟨-, t2, t3⟩ := (tensorOk_iff _ _).1 ht
  obtain ⟨-, u2, u3⟩ := (tensorOk_iff _ _).1 hu
  refine ⟨tensorOk_t g1 (by rw [bsL_length]; omega) fun j hj => ?_, ?_⟩
  · rw [bsL_length] at hj
    have h := g3 j (by omega)
    have e : (bsL xs zs qs a (ps.getD a 0)).getD j 0 = bsPick zs qs (bsRef xs a (ps.getD a 0) j) := range_getD hj
    rw [e]
    unfold bsIn at h
    unfold bsPick
    rw [Bool.and_eq_true, decide_eq_true_iff] at h
    obtain ⟨h0, h1⟩ := h
    split
    · rename_i hb
      rw [if_pos hb, decide_eq_true_iff] at h1
      exact t3 _ (by omega)
    · rename_i hb
      rw [if_neg hb, decide_eq_true_iff, ← he] at h1
      exact u3 _ (by omega)
  · rw [btL_turn e1 e2, g2, List.map_map]; rfl
def sBesideOf : CSpec := fnTB (ι := Nat × List Int × Nat × List Int × Nat × List Int × Nat × List Int × Int) 3 (fun | (c, xs, d, zs, e, ps, f, qs, i) => [.agg [.sl c xs.length (xs.map (.int .i64)), .sl d zs.length (zs.map (.int .i64))], .agg [.sl e ps.length (ps.map (.int .i64)), .sl f qs.length (qs.map (.int .i64))], .int .i64 i]) (fun _ => True) (fun | (_, xs, _, zs, _, ps, _, qs, i) => bsM xs zs ps qs i)
theorem byTurns_call {c d : Nat} {zs qs : List Int} {A B n : Nat} {x y : Int} {env : List AV} {rows : List Row} {ctr low : Nat} {k : AV → St → Prop} (hx : x = A) (hy : y = B) (hpre : zs.length = n * A ∧ qs.length = n * B ∧ (1 ≤ A ∧ A ≤ 64 ∧ 1 ≤ B ∧ B ≤ 64) ∧ n ≤ 64)
    (h : k (.ref rows.length ctr 0 (btL zs qs A B n).length) ⟨env, rows ++ [⟨ctr, 3, 1, (btL zs qs A B n).map (.int .i64)⟩], ctr + 1, low⟩) :
    CallB Tryz.prog 187 ⟨env, rows, ctr, low⟩ [.sl c zs.length (zs.map (.int .i64)), .int .i64 x, .sl d qs.length (qs.map (.int .i64)), .int .i64 y] k := by
  subst hx; subst hy
  exact callL_in byTurns_sound (c, zs, A, d, qs, B, n) hpre h
theorem sameNums_calln {c d n : Nat} {xs ys : List Int} {env : List AV} {rows : List Row} {ctr low : Nat} {k : AV → St → Prop} (hn : n = xs.length) (h : k (.bool (decide (xs = ys))) ⟨env, rows, ctr + 1, low⟩) :
    CallB Tryz.prog 72 ⟨env, rows, ctr, low⟩ [.sl c n (xs.map (.int .i64)), .sl d ys.length (ys.map (.int .i64))] k := by
  subst hn; exact sameNums_call h
set_option maxHeartbeats 8000000 in
theorem iBesideOf_sound : Sound Tryz.prog 169 sBesideOf := by
  refine sound_of Tryz.func169 rfl (enters_of Tryz.func169 (by kernel_rfl) (by kernel_rfl)) ?_
  rintro ⟨c, xs, d, zs, e, ps, f, qs, i⟩ -
  have hmax : maxLen = 9223372036854775807 := rfl
  rcases tensor_or xs zs with ⟨ht, hx, hz⟩ | ht
  · rcases tensor_or ps qs with ⟨hu, hy, hw⟩ | hu
    · by_cases hi : 0 ≤ i ∧ i < xs.length
      · obtain ⟨a, rfl⟩ : ∃ a : Nat, i = a := ⟨i.toNat, by omega⟩
        have ha : a < xs.length := by omega
        by_cases hj : a < ps.length
        · by_cases he : xs.set a (ps.getD a 0) = ps
          · obtain ⟨F, e1, e2, hn, hp⟩ := bs_all ht hu ha he.symm
            have hs := ((tensorOk_iff _ _).1 ht).1
            have hsz := size_in hs ha
            have hso : stridesOf xs = strides xs := if_pos hs
            have hsl : (stridesOf xs).length = xs.length := by rw [hso, strides_length]
            have hA : IntKind.i64.wrap ((stridesOf xs).getD a 0 * xs.getD a 0) = bsA xs a := by
              rw [hso]; have := F.ea; unfold bsStp at this; rw [this]; exact IntWalk.i64_in _ (by have := F.ab; omega)
            have hB : IntKind.i64.wrap ((stridesOf xs).getD a 0 * ps.getD a 0) = bsB xs a (ps.getD a 0) := by
              rw [hso]; have := F.eb; unfold bsStp at this; rw [this]; exact IntWalk.i64_in _ (by have := F.ab; omega)
            have hpl : ps.length = xs.length := by rw [← he]; simp
            have hw1 : IntKind.i64.wrap (ps.getD a 0 + xs.getD a 0) = xs.getD a 0 + ps.getD a 0 := by rw [Int.add_comm]; exact IntWalk.i64_in _ (by omega)
            conv => whnf
            repeat' (first
              | ((first | refine plan_in2 (id := 7) [0, 1, 2, 3, 4, 5, 6, 7, 8, 9, 10, 11] (by kernel_rfl) (by kernel_rfl) ?_ | refine plan_in2 (id := 9) [0, 1, 2, 3, 4, 5, 6, 7, 8, 9, 10, 11, 12, 13, 14, 15, 16, 17, 18, 19, 20, 21, 22, 23, 24] (by kernel_rfl) (by kernel_rfl) ?_ | refine aIf_t ?_ | refine aIf_f ?_ | refine get_nat (by omega) ?_ | refine aGet_in rfl ?_ | refine And.intro (by omega) ?_ | refine load_same ?_ | refine And.intro rfl (And.intro (List.cons_ne_nil _ _) ?_) | refine And.intro (Nat.le_of_ble_eq_true rfl) ?_ | refine callG_t ?_ | refine copyNums_call (by omega) ?_ | refine axisOk_call ?_ | refine iTensorOk_call ?_ | refine append_same ?_ | refine takeN_in ?_ | refine And.intro (pureL_ints _ _) ?_ | refine And.intro rfl (And.intro rfl (And.intro (by first | omega | (rw [List.length_map]; omega)) ?_)) | refine set_nat ?_ (by omega) | refine set_force ?_ | refine And.intro (by kernel_rfl) ?_ | refine aIf_tt (by assumption) ?_); conv => whnf) | refine aIf_eqf ?_
              | refine aIf_not ?_ | (refine aIf_dec (fun _ => ?_) (fun _ => ?_) <;> conv => whnf))
            all_goals (first | (exfalso; omega) | skip)
            rw [he]
            refine cut_all (by show xs.length * 1 = _; rw [List.length_map]; omega) (scalL_ints _ _) ?_
            conv => whnf
            repeat' (first
              | ((first | refine plan_in2 (id := 7) [0, 1, 2, 3, 4, 5, 6, 7, 8, 9, 10, 11] (by kernel_rfl) (by kernel_rfl) ?_ | refine plan_in2 (id := 9) [0, 1, 2, 3, 4, 5, 6, 7, 8, 9, 10, 11, 12, 13, 14, 15, 16, 17, 18, 19, 20, 21, 22, 23, 24] (by kernel_rfl) (by kernel_rfl) ?_ | refine append_same ?_ | refine And.intro (pureL_ints _ _) ?_); conv => whnf))
            refine sameNums_calln hpl.symm ?_
            conv => whnf
            repeat' (first
              | ((first | refine plan_in2 (id := 7) [0, 1, 2, 3, 4, 5, 6, 7, 8, 9, 10, 11] (by kernel_rfl) (by kernel_rfl) ?_ | refine plan_in2 (id := 9) [0, 1, 2, 3, 4, 5, 6, 7, 8, 9, 10, 11, 12, 13, 14, 15, 16, 17, 18, 19, 20, 21, 22, 23, 24] (by kernel_rfl) (by kernel_rfl) ?_ | refine get_nat0 (by omega) ?_ | refine get_nat (by omega) ?_ | refine aGet_in rfl ?_ | refine And.intro (by omega) ?_ | refine callG_t ?_ | refine append_same ?_ | refine And.intro (pureL_ints _ _) ?_ | refine iStridesOf_call (by omega) ?_ | refine And.intro rfl (And.intro rfl (And.intro (by first | omega | (rw [List.length_map]; omega)) ?_)) | refine set_nat ?_ (by omega)); conv => whnf) | refine aIf_not ?_
              | (refine aIf_decself ?_; conv => whnf))
            all_goals (first | (exfalso; omega) | skip)
            have hsl2 : (ps.set a (IntKind.i64.wrap (ps.getD a 0 + xs.getD a 0))).length = xs.length := by rw [List.length_set]; exact hpl
            refine byTurns_call (A := bsA xs a) (B := bsB xs a (ps.getD a 0)) (n := bsN xs a) hA hB ⟨e1, e2, F.ab, hn⟩ ?_
            have hsh : ps.set a (IntKind.i64.wrap (ps.getD a 0 + xs.getD a 0)) = bsSh xs a (ps.getD a 0) := by
              rw [hw1]; unfold bsSh
              have e0 : ∀ v : Int, ps.set a v = xs.set a v := fun v => by
                conv => lhs; rw [← he]
                rw [List.set_set]
              exact e0 _
            conv => whnf
            repeat' (first
              | ((first | refine plan_in2 (id := 7) [0, 1, 2, 3, 4, 5, 6, 7, 8, 9, 10, 11] (by kernel_rfl) (by kernel_rfl) ?_ | refine plan_in2 (id := 9) [0, 1, 2, 3, 4, 5, 6, 7, 8, 9, 10, 11, 12, 13, 14, 15, 16, 17, 18, 19, 20, 21, 22, 23, 24] (by kernel_rfl) (by kernel_rfl) ?_ | refine aGet_in rfl ?_ | refine And.intro (Nat.le_of_ble_eq_true rfl) ?_); conv => whnf) | (refine orNone_call _ _ rfl rfl (by decide) (by first | rfl | omega) (by first | rfl | omega) (fun _ => ?_) (fun _ => ?_) <;> conv => whnf) | ((first | refine append_same ?_ | refine takeN_in ?_ | refine set_force ?_ | refine And.intro (by kernel_rfl) ?_); conv => whnf))
            · rename_i hT
              rw [hsh] at hT
              have hP : bsP xs zs ps qs (a : Int) := ⟨ht, hu, hi, by rw [Int.toNat_natCast]; exact he.symm, by
                have := size_in ((tensorOk_iff _ _).1 hT).1 (show a < (bsSh xs a (ps.getD a 0)).length by rw [bsSh_length]; exact ha)
                rw [Int.toNat_natCast]
                unfold bsSh at this
                rw [getD_set ha, if_pos rfl] at this
                exact this.2⟩
              have hM : bsM xs zs ps qs (a : Int) = (ps.set a (IntKind.i64.wrap (ps.getD a 0 + xs.getD a 0)), btL zs qs (bsA xs a) (bsB xs a (ps.getD a 0)) (bsN xs a), true) := by rw [bsM_t hP, hsh, (bs_told hP).2]
              refine retTB (hM := hM) ?_ ?_ ?_ ?_ ?_
              all_goals (first | exact rfl | decide | (simp; done))
            · rename_i hT
              have hC : ¬ bsP xs zs ps qs (a : Int) := fun h => by
                have := bs_told h
                rw [hsh, this.2] at hT
                exact Bool.false_ne_true (hT.symm.trans this.1)
              refine retTB (hM := bsM_f hC) ?_ ?_ ?_ ?_ ?_
              all_goals (first | exact rfl | decide | (simp; done))
          · have hC : ¬ bsP xs zs ps qs (a : Int) := fun h => he (by have := h.2.2.2.1; rw [Int.toNat_natCast] at this; exact this.symm)
            conv => whnf
            repeat' (first
              | ((first | refine plan_in2 (id := 7) [0, 1, 2, 3, 4, 5, 6, 7, 8, 9, 10, 11] (by kernel_rfl) (by kernel_rfl) ?_ | refine plan_in2 (id := 9) [0, 1, 2, 3, 4, 5, 6, 7, 8, 9, 10, 11, 12, 13, 14, 15, 16, 17, 18, 19, 20, 21, 22, 23, 24] (by kernel_rfl) (by kernel_rfl) ?_ | refine aIf_t ?_ | refine aIf_f ?_ | refine get_nat (by omega) ?_ | refine aGet_in rfl ?_ | refine And.intro (by omega) ?_ | refine load_same ?_ | refine And.intro rfl (And.intro (List.cons_ne_nil _ _) ?_) | refine And.intro (Nat.le_of_ble_eq_true rfl) ?_ | refine callG_t ?_ | refine copyNums_call (by omega) ?_ | refine axisOk_call ?_ | refine iTensorOk_call ?_ | refine append_same ?_ | refine takeN_in ?_ | refine And.intro (pureL_ints _ _) ?_ | refine And.intro rfl (And.intro rfl (And.intro (by first | omega | (rw [List.length_map]; omega)) ?_)) | refine set_nat ?_ (by omega) | refine set_force ?_ | refine And.intro (by kernel_rfl) ?_ | refine aIf_tt (by assumption) ?_); conv => whnf) | refine aIf_eqf ?_
              | refine aIf_not ?_ | (refine aIf_dec (fun _ => ?_) (fun _ => ?_) <;> conv => whnf))
            all_goals (first | (exfalso; omega) | skip)
            refine cut_all (by show xs.length * 1 = _; rw [List.length_map, List.length_set]; omega) (scalL_ints _ _) ?_
            conv => whnf
            repeat' (first
              | ((first | refine plan_in2 (id := 7) [0, 1, 2, 3, 4, 5, 6, 7, 8, 9, 10, 11] (by kernel_rfl) (by kernel_rfl) ?_ | refine plan_in2 (id := 9) [0, 1, 2, 3, 4, 5, 6, 7, 8, 9, 10, 11, 12, 13, 14, 15, 16, 17, 18, 19, 20, 21, 22, 23, 24] (by kernel_rfl) (by kernel_rfl) ?_ | refine append_same ?_ | refine And.intro (pureL_ints _ _) ?_); conv => whnf))
            refine sameNums_calln (by rw [List.length_set]) ?_
            conv => whnf
            repeat' (first
              | ((first | refine plan_in2 (id := 7) [0, 1, 2, 3, 4, 5, 6, 7, 8, 9, 10, 11] (by kernel_rfl) (by kernel_rfl) ?_ | refine plan_in2 (id := 9) [0, 1, 2, 3, 4, 5, 6, 7, 8, 9, 10, 11, 12, 13, 14, 15, 16, 17, 18, 19, 20, 21, 22, 23, 24] (by kernel_rfl) (by kernel_rfl) ?_ | refine And.intro (by omega) ?_ | refine And.intro (Nat.le_of_ble_eq_true rfl) ?_ | refine append_same ?_ | refine takeN_in ?_ | refine set_force ?_ | refine And.intro (by kernel_rfl) ?_); conv => whnf) | refine aIf_not ?_
              | (refine aIf_dec (fun _ => ?_) (fun _ => ?_) <;> conv => whnf))
            all_goals (first | (exfalso; exact he (by assumption)) | skip)
            refine retTB (hM := bsM_f hC) ?_ ?_ ?_ ?_ ?_
            all_goals (first | exact rfl | decide | (simp; done))
        · have hC : ¬ bsP xs zs ps qs (a : Int) := fun h => hj (by have := congrArg List.length h.2.2.2.1; rw [List.length_set] at this; omega)
          conv => whnf
          repeat' (first
            | ((first | refine plan_in2 (id := 7) [0, 1, 2, 3, 4, 5, 6, 7, 8, 9, 10, 11] (by kernel_rfl) (by kernel_rfl) ?_ | refine plan_in2 (id := 9) [0, 1, 2, 3, 4, 5, 6, 7, 8, 9, 10, 11, 12, 13, 14, 15, 16, 17, 18, 19, 20, 21, 22, 23, 24] (by kernel_rfl) (by kernel_rfl) ?_ | refine aIf_t ?_ | refine aIf_f ?_ | refine get_nat (by omega) ?_ | refine aGet_in rfl ?_ | refine And.intro (by omega) ?_ | refine load_same ?_ | refine And.intro rfl (And.intro (List.cons_ne_nil _ _) ?_) | refine And.intro (Nat.le_of_ble_eq_true rfl) ?_ | refine callG_t ?_ | refine copyNums_call (by omega) ?_ | refine axisOk_call ?_ | refine iTensorOk_call ?_ | refine append_same ?_ | refine takeN_in ?_ | refine And.intro (pureL_ints _ _) ?_ | refine cut_all (by simp only [List.length_map]; omega) (scalL_ints _ _) ?_ | refine set_nat ?_ (by omega) | refine set_force ?_ | refine And.intro (by kernel_rfl) ?_ | refine aIf_tt (by assumption) ?_); conv => whnf) | refine aIf_eqf ?_
            | refine aIf_not ?_ | (refine aIf_dec (fun _ => ?_) (fun _ => ?_) <;> conv => whnf))
          all_goals (first | (exfalso; omega) | skip)
          refine retTB (hM := bsM_f hC) ?_ ?_ ?_ ?_ ?_
          all_goals (first | exact rfl | decide | (simp; done))
      · have hC : ¬ bsP xs zs ps qs i := fun h => hi h.2.2.1
        conv => whnf
        repeat' (first
          | ((first | refine plan_in2 (id := 7) [0, 1, 2, 3, 4, 5, 6, 7, 8, 9, 10, 11] (by kernel_rfl) (by kernel_rfl) ?_ | refine plan_in2 (id := 9) [0, 1, 2, 3, 4, 5, 6, 7, 8, 9, 10, 11, 12, 13, 14, 15, 16, 17, 18, 19, 20, 21, 22, 23, 24] (by kernel_rfl) (by kernel_rfl) ?_ | refine aIf_t ?_ | refine aIf_f ?_ | refine get_nat (by omega) ?_ | refine aGet_in rfl ?_ | refine And.intro (by omega) ?_ | refine load_same ?_ | refine And.intro rfl (And.intro (List.cons_ne_nil _ _) ?_) | refine And.intro (Nat.le_of_ble_eq_true rfl) ?_ | refine callG_t ?_ | refine copyNums_call (by omega) ?_ | refine axisOk_call ?_ | refine iTensorOk_call ?_ | refine append_same ?_ | refine takeN_in ?_ | refine And.intro (pureL_ints _ _) ?_ | refine cut_all (by simp only [List.length_map]; omega) (scalL_ints _ _) ?_ | refine set_nat ?_ (by omega) | refine set_force ?_ | refine And.intro (by kernel_rfl) ?_ | refine aIf_tt (by assumption) ?_); conv => whnf) | refine aIf_eqf ?_
          | refine aIf_not ?_ | (refine aIf_dec (fun _ => ?_) (fun _ => ?_) <;> conv => whnf))
        all_goals (first | (exfalso; omega) | skip)
        refine retTB (hM := bsM_f hC) ?_ ?_ ?_ ?_ ?_
        all_goals (first | exact rfl | decide | (simp; done))
    · have hC : ¬ bsP xs zs ps qs i := fun h => Bool.false_ne_true (hu.symm.trans h.2.1)
      conv => whnf
      repeat' (first
        | ((first | refine plan_in2 (id := 7) [0, 1, 2, 3, 4, 5, 6, 7, 8, 9, 10, 11] (by kernel_rfl) (by kernel_rfl) ?_ | refine plan_in2 (id := 9) [0, 1, 2, 3, 4, 5, 6, 7, 8, 9, 10, 11, 12, 13, 14, 15, 16, 17, 18, 19, 20, 21, 22, 23, 24] (by kernel_rfl) (by kernel_rfl) ?_ | refine aIf_t ?_ | refine aIf_f ?_ | refine load_same ?_ | refine And.intro rfl (And.intro (List.cons_ne_nil _ _) ?_) | refine And.intro (Nat.le_of_ble_eq_true rfl) ?_ | refine callG_t ?_ | refine iTensorOk_call ?_ | refine append_same ?_ | refine takeN_in ?_ | refine And.intro (pureL_ints _ _) ?_ | refine set_force ?_ | refine And.intro (by kernel_rfl) ?_ | refine aIf_tt (by assumption) ?_ | refine aIf_ff (by assumption) ?_); conv => whnf) | refine aIf_eqf ?_
        | refine aIf_not ?_)
      refine retTB (hM := bsM_f hC) ?_ ?_ ?_ ?_ ?_
      all_goals (first | exact rfl | decide | (simp; done))
  · have hC : ¬ bsP xs zs ps qs i := fun h => Bool.false_ne_true (ht.symm.trans h.1)
    conv => whnf
    repeat' (first
      | ((first | refine plan_in2 (id := 7) [0, 1, 2, 3, 4, 5, 6, 7, 8, 9, 10, 11] (by kernel_rfl) (by kernel_rfl) ?_ | refine plan_in2 (id := 9) [0, 1, 2, 3, 4, 5, 6, 7, 8, 9, 10, 11, 12, 13, 14, 15, 16, 17, 18, 19, 20, 21, 22, 23, 24] (by kernel_rfl) (by kernel_rfl) ?_ | refine aIf_t ?_ | refine aIf_f ?_ | refine load_same ?_ | refine And.intro rfl (And.intro (List.cons_ne_nil _ _) ?_) | refine And.intro (Nat.le_of_ble_eq_true rfl) ?_ | refine callG_t ?_ | refine iTensorOk_call ?_ | refine append_same ?_ | refine takeN_in ?_ | refine And.intro (pureL_ints _ _) ?_ | refine set_force ?_ | refine And.intro (by kernel_rfl) ?_ | refine aIf_ff (by assumption) ?_); conv => whnf) | refine aIf_eqf ?_
      | refine aIf_not ?_)
    refine retTB (hM := bsM_f hC) ?_ ?_ ?_ ?_ ?_
    all_goals (first | exact rfl | decide | (simp; done))
theorem iBesideOf_call {c d e f : Nat} {xs zs ps qs : List Int} {i : Int} {env : List AV} {rows : List Row} {ctr low : Nat} {k : AV → St → Prop} (hpre : True)
    (hk : k (.tup [.agg [.ref rows.length ctr 0 (bsM xs zs ps qs i).1.length, .ref (rows.length + 1) ctr 0 (bsM xs zs ps qs i).2.1.length], .bool (bsM xs zs ps qs i).2.2]) ⟨env, rows ++ [⟨ctr, 3, 1, (bsM xs zs ps qs i).1.map (.int .i64)⟩, ⟨ctr, 3, 1, (bsM xs zs ps qs i).2.1.map (.int .i64)⟩], ctr + 1, low⟩) :
    CallB Tryz.prog 169 ⟨env, rows, ctr, low⟩ [.agg [.sl c xs.length (xs.map (.int .i64)), .sl d zs.length (zs.map (.int .i64))], .agg [.sl e ps.length (ps.map (.int .i64)), .sl f qs.length (qs.map (.int .i64))], .int .i64 i] k := callTB_in iBesideOf_sound (c, xs, d, zs, e, ps, f, qs, i) hpre hk
end Go.Proofs.YtjmdhfjemaoebaaGreat
