import Derived.Test.YtmgggbgejdkamaaV16
import Derived.Test.YtmgggbgejdkamaaM01x28
import Derived.Test.YtmgggbgejdkamaaM01x19
/- Chapter 5: OrderOk of the program; orders in the laws. -/
namespace Go.Proofs.Ytmgggbgejdkamaa
set_option maxRecDepth 20000
open Go.RowKit Go.Am
set_option linter.unusedSimpArgs false
attribute [local irreducible] aPlan aGet aIf aLoop aCall RetB NextB CallB CallG aCut aSet aAppend
theorem iOrderCost_call {c d e g : Nat} {zs o : List Int} {fs ps : List (List Int)} {env : List AV} {rows : List Row} {ctr low : Nat} {k : AV → St → Prop} (hpre : True) (h : k (.int .i64 (odC (zs, fs, o) ps)) ⟨env, rows, ctr + 1, low⟩) :
    CallB Try.prog 38 ⟨env, rows, ctr, low⟩ [.agg [.sl c zs.length (zs.map (.int .i64)), .sl d fs.length (fs.map (slI d)), .sl e o.length (o.map (.int .i64))], .sl g ps.length (ps.map (slI g))] k := callS_in iOrderCost_sound ((c, zs, d, fs, e, o), g, ps) hpre rfl h
theorem iOrderOk_sound : Sound Try.prog 20 sOrderOk := by
  refine sound_of Try.func20 rfl (enters_of Try.func20 (by kernel_rfl) (by kernel_rfl)) ?_
  rintro ⟨⟨c, zs, d, fs, e, o⟩, g, ps⟩ -
  have hb : decide (0 ≤ odC (zs, fs, o) ps) = decide (odP (zs, fs, o) ps) := decide_eq_decide.2 odC_nn
  conv => whnf
  repeat' (first
    | (refine aIf_t ?_; conv => whnf)
    | (refine aIf_f ?_; conv => whnf)
    | (refine fun (_ : _ ≤ maxLen) => ?_; conv => whnf)
    | (refine get_nat0 (by omega) ?_; conv => whnf)
    | (refine get_int0 (by omega) ?_; conv => whnf)
    | (refine get_nat (by omega) ?_; conv => whnf)
    | (refine get_int (by omega) ?_; conv => whnf)
    | (refine aGet_in rfl ?_; conv => whnf)
    | (refine And.intro (And.intro (Int.le_refl _) (And.intro (by kernel_rfl) (And.intro rfl (by kernel_rfl)))) (And.intro (And.intro (by omega) (And.intro (bytes_le (b := 8) rfl (by omega)) (by omega))) ?_); conv => whnf)
    | (refine And.intro (by omega) ?_; conv => whnf)
    | (refine load_same ?_; conv => whnf)
    | (refine And.intro (by rw [List.length_map]; omega) ?_; conv => whnf)
    | (refine And.intro rfl (And.intro (List.cons_ne_nil _ _) ?_); conv => whnf)
    | (refine And.intro (Nat.le_of_ble_eq_true rfl) ?_; conv => whnf)
    | (refine callG_t ?_; conv => whnf)
    | (refine append_same ?_; conv => whnf)
    | (refine get_ii_n (by omega) ?_; conv => whnf)
    | (refine get_ii (by omega) ?_; conv => whnf)
    | (refine get_nd_n (by omega) rfl ?_; conv => whnf)
    | (refine get_nd (by omega) rfl ?_; conv => whnf)
    | (refine get_tn_n (by omega) rfl ?_; conv => whnf)
    | (refine get_tn (by omega) rfl ?_; conv => whnf)
    | (refine part_nd_n (by omega) ?_; conv => whnf)
    | (refine part_nd (by omega) ?_; conv => whnf)
    | (refine part_tn_n (by omega) ?_; conv => whnf)
    | (refine part_tn (by omega) ?_; conv => whnf)
    | (refine And.intro (pureL_ii _ _) ?_; conv => whnf)
    | (refine And.intro (pureL_nd _ _) ?_; conv => whnf)
    | (refine And.intro (pureL_tn _ _) ?_; conv => whnf)
    | (refine cut_ii rfl ?_; conv => whnf)
    | (refine cut_nd rfl ?_; conv => whnf)
    | (refine cut_tn rfl ?_; conv => whnf)
    | (refine get_ml_n (by omega) ?_; conv => whnf)
    | (refine get_ml (by omega) ?_; conv => whnf)
    | (refine And.intro (pureL_ml _) ?_; conv => whnf)
    | (refine cut_ml rfl ?_; conv => whnf)
    | (refine And.intro (And.intro (Int.le_refl _) (And.intro (by kernel_rfl) (And.intro rfl (by kernel_rfl)))) (And.intro (And.intro (by omega) (And.intro (bytes_le (b := 24) rfl (by omega)) (by omega))) ?_); conv => whnf)
    | (refine And.intro (And.intro (Int.le_refl _) (And.intro (by kernel_rfl) (And.intro rfl (by kernel_rfl)))) (And.intro (And.intro (by omega) (And.intro (bytes_le (b := 48) rfl (by omega)) (by omega))) ?_); conv => whnf)
    | (refine And.intro rfl (And.intro rfl (And.intro (by rw [fillC_length (by omega)]; omega) ?_)); conv => whnf)
    | (refine And.intro rfl (And.intro rfl (And.intro (by rw [fillF_length (ndO_length _) rfl (by omega)]; omega) ?_)); conv => whnf)
    | (refine And.intro rfl (And.intro rfl (And.intro (by rw [fillF_length (tnO_length _) rfl (by omega)]; omega) ?_)); conv => whnf)
    | (refine And.intro (le_fillF_len (ndO_length _) rfl (by omega)) ?_; conv => whnf)
    | (refine And.intro (le_fillF_len (tnO_length _) rfl (by omega)) ?_; conv => whnf)
    | (refine set_fillC (by omega) (by omega) ?_; conv => whnf)
    | (refine set_fillF (ndO_length _) (by omega) rfl ?_; conv => whnf)
    | (refine set_fillF (tnO_length _) (by omega) rfl ?_; conv => whnf)
    | (refine getb_n (by omega) ?_; conv => whnf)
    | (refine getb_n0 (by omega) ?_; conv => whnf)
    | (refine setb_n ?_ (by omega); conv => whnf)
    | (refine cut_bools ?_; conv => whnf)
    | (refine And.intro (ond_fit (by omega) (Nat.le_of_ble_eq_true rfl)) ?_; conv => whnf)
    | (refine set_ond (by omega) (Nat.le_of_ble_eq_true rfl) ⟨_, rfl⟩ (fun _ _ _ _ => ?_); conv => whnf)
    | (refine get_oi_n (by omega) ?_; conv => whnf)
    | (refine get_ond_n (by omega) rfl ?_; conv => whnf)
    | (refine get_otn_n (by omega) rfl ?_; conv => whnf)
    | (refine iOrderCost_call trivial ?_; conv => whnf)
    | (refine takeN_in ?_; conv => whnf)
    | (refine And.intro (pureL_ints _ _) ?_; conv => whnf)
    | (refine And.intro (pureL_take _ _ _) ?_; conv => whnf)
    | (refine And.intro (pureL_cut _ _ _ _) ?_; conv => whnf)
    | (refine cut_ints ?_; conv => whnf)
    | (refine cut_marks ?_; conv => whnf)
    | (refine cut_all rfl (scalL_ints _ _) ?_; conv => whnf)
    | (refine cut_all (by simp only [List.length_map]; omega) (scalL_ints _ _) ?_; conv => whnf)
    | (refine append_int rfl rfl (by first | rfl | (simp only [List.length_take, turned_length]; omega)) (by omega) (Nat.le_of_ble_eq_true rfl) ?_; conv => whnf)
    | (refine And.intro rfl (And.intro rfl (And.intro (by first | omega | (rw [List.length_map]; omega)) ?_)); conv => whnf)
    | (refine set_nat ?_ (by omega); conv => whnf)
    | (refine set_int ?_ (by omega); conv => whnf)
    | (refine set_bool ?_ (by omega); conv => whnf)
    | (refine set_force ?_; conv => whnf)
    | (refine get_bool0 (by omega) ?_; conv => whnf)
    | (refine And.intro (And.intro (Int.le_refl _) (And.intro (by kernel_rfl) (And.intro rfl (by kernel_rfl)))) (And.intro (And.intro (by omega) (And.intro (bytes_le (b := 1) rfl (by omega)) (by omega))) ?_); conv => whnf)
    | (refine And.intro (And.intro (by kernel_rfl) (And.intro rfl (Nat.le_of_ble_eq_true rfl))) ?_; conv => whnf)
    | (refine And.intro (And.intro (by kernel_rfl) (by kernel_rfl)) ?_; conv => whnf)
    | (refine And.intro (by kernel_rfl) ?_; conv => whnf)
    | (refine aIf_tt (by assumption) ?_; conv => whnf)
    | (refine aIf_ff (by assumption) ?_; conv => whnf)
    | refine aIf_eqt ?_
    | refine aIf_eqf ?_
    | refine aIf_not ?_
    | (refine aIf_bself ?_; conv => whnf)
    | (refine aIf_beself ?_; conv => whnf)
    | (refine aIf_iself ?_; conv => whnf)
    | (refine aIf_decself ?_; conv => whnf)
    | (refine aIf_dec (fun _ => ?_) (fun _ => ?_) <;> conv => whnf)
    | (refine aIf_beq (fun _ => ?_) (fun _ => ?_) <;> conv => whnf)
    | (refine aIf_bne (fun _ => ?_) (fun _ => ?_) <;> conv => whnf)
    | (refine aIf_bbne (fun _ => ?_) (fun _ => ?_) <;> conv => whnf)
    | (refine aIf_bbeq (fun _ => ?_) (fun _ => ?_) <;> conv => whnf)
    | (refine aIf_in (fun _ => ?_) (fun _ => ?_) <;> conv => whnf))
  exact retS rfl (congrArg AV.bool hb)
theorem iOrderOk_call {c d e g : Nat} {zs o : List Int} {fs ps : List (List Int)} {env : List AV} {rows : List Row} {ctr low : Nat} {k : AV → St → Prop} (hpre : True) (h : k (.bool (decide (odP (zs, fs, o) ps))) ⟨env, rows, ctr + 1, low⟩) :
    CallB Try.prog 20 ⟨env, rows, ctr, low⟩ [.agg [.sl c zs.length (zs.map (.int .i64)), .sl d fs.length (fs.map (slI d)), .sl e o.length (o.map (.int .i64))], .sl g ps.length (ps.map (slI g))] k := callS_in iOrderOk_sound ((c, zs, d, fs, e, o), g, ps) hpre rfl h
end Go.Proofs.Ytmgggbgejdkamaa

/- Chapter 5: the best order: mathematics. -/
namespace Go.Proofs.Ytmgggbgejdkamaa
set_option maxRecDepth 20000
open Go.RowKit Go.Am
set_option linter.unusedSimpArgs false
theorem orS_cons (S : Sm) (p : List Int) (r : List (List Int)) : ∀ k, orS S (p :: r) (k + 1) = orS (stp S p) r k
  | 0 => rfl
  | k + 1 => by
    show stp (orS S (p :: r) (k + 1)) (r.getD k []) = stp (orS (stp S p) r k) (r.getD k [])
    rw [orS_cons S p r k]
theorem ords_od : ∀ (m : Nat) (S : Sm), S.2.1.length = m → ∀ o ∈ ords m S, orP S o o.length ∧ (orS S o o.length).2.1.length = 1
  | 0, _, _, o, ho => nomatch ho
  | m + 1, S, h, o, ho => by
    by_cases h1 : S.2.1.length = 1
    · rw [ords_1 h1] at ho
      obtain rfl := List.mem_singleton.1 ho
      exact ⟨orP_0 _ _, h1⟩
    · rw [ords_s h1] at ho
      obtain ⟨p, hp, ho⟩ := List.mem_flatMap.1 ho
      obtain ⟨i1, i2, i3, i4⟩ := prO_is S.2.1.length (Nat.le_refl _) p hp
      by_cases hn : nrw S p
      · rw [ordE_t hn] at ho
        obtain ⟨r, hr, rfl⟩ := List.mem_map.1 ho
        have hg : rng S (p.getD 0 0) (p.getD 1 0) := ⟨i2, i3, i4⟩
        have hfl : (stp S p).2.1.length + 1 = S.2.1.length := mrg_fl hg
        obtain ⟨e1, e2⟩ := ords_od m (stp S p) (by omega) r hr
        refine ⟨fun k hk => ?_, ?_⟩
        · match k, hk with
          | 0, _ => exact ⟨i1, hg, hn⟩
          | k + 1, hk =>
            rw [orS_cons]
            exact e1 k (by simpa using hk)
        · show (orS S (p :: r) (r.length + 1)).2.1.length = 1
          rw [orS_cons]; exact e2
      · rw [ordE_f hn] at ho; exact nomatch ho
theorem orA_nn {S : Sm} {o : List (List Int)} (ho : o ∈ orA S) : 0 ≤ odC S o := by
  by_cases hs : sumP S.1 S.2.1 S.2.2
  · have e : orA S = ords S.2.1.length S := orM_t hs
    rw [e] at ho
    obtain ⟨h1, h2⟩ := ords_od _ S rfl o ho
    exact odC_nn.2 ⟨hs, h1, h2⟩
  · have e : orA S = [] := orM_f hs
    rw [e] at ho; exact nomatch ho
/-- The first of the first i orders that takes the fewest. -/
def bI (S : Sm) (L : L3) : Nat → Nat
  | 0 => 0
  | i + 1 => if odC S (L.getD i []) < odC S (L.getD (bI S L i) []) then i else bI S L i
theorem bI_t {S : Sm} {L : L3} {i : Nat} (h : odC S (L.getD i []) < odC S (L.getD (bI S L i) [])) : bI S L (i + 1) = i := if_pos h
theorem bI_f {S : Sm} {L : L3} {i : Nat} (h : ¬ odC S (L.getD i []) < odC S (L.getD (bI S L i) [])) : bI S L (i + 1) = bI S L i := if_neg h
theorem bI_1 (S : Sm) (L : L3) : bI S L 1 = 0 := by
  unfold bI
  split <;> rfl
theorem bI_lt (S : Sm) (L : L3) : ∀ i, 0 < i → bI S L i < i
  | 1, _ => by rw [bI_1]; exact Nat.one_pos
  | i + 2, _ => by
    have := bI_lt S L (i + 1) (Nat.succ_pos _)
    by_cases h : odC S (L.getD (i + 1) []) < odC S (L.getD (bI S L (i + 1)) [])
    · rw [bI_t h]; omega
    · rw [bI_f h]; omega
def beM (S : Sm) : List (List Int) × Bool := if orA S = [] then ([], false) else ((orA S).getD (bI S (orA S) (orA S).length) [], true)
theorem be_t {S : Sm} (h : ¬ orA S = []) : beM S = ((orA S).getD (bI S (orA S) (orA S).length) [], true) := if_neg h
theorem be_f {S : Sm} (h : orA S = []) : beM S = ([], false) := if_pos h
/-- What the program has found among the first i. -/
def stB (S : Sm) (L : L3) (i : Nat) : List (List Int) × Int := if i = 0 then ([], -1) else (L.getD (bI S L i) [], odC S (L.getD (bI S L i) []))
theorem stB_0 (S : Sm) (L : L3) : stB S L 0 = ([], -1) := rfl
theorem stB_t {S : Sm} {L : L3} {i : Nat} (h : i = 0 ∨ odC S (L.getD i []) < (stB S L i).2) : stB S L (i + 1) = (L.getD i [], odC S (L.getD i [])) := by
  have e : stB S L (i + 1) = (L.getD (bI S L (i + 1)) [], odC S (L.getD (bI S L (i + 1)) [])) := if_neg (Nat.succ_ne_zero _)
  rw [e]
  by_cases h0 : i = 0
  · subst h0; rw [bI_1]
  · have h := h.resolve_left h0
    have e2 : stB S L i = (L.getD (bI S L i) [], odC S (L.getD (bI S L i) [])) := if_neg h0
    rw [e2] at h
    rw [bI_t h]
theorem stB_f {S : Sm} {L : L3} {i : Nat} (h0 : ¬ i = 0) (h : ¬ odC S (L.getD i []) < (stB S L i).2) : stB S L (i + 1) = stB S L i := by
  have e : stB S L (i + 1) = (L.getD (bI S L (i + 1)) [], odC S (L.getD (bI S L (i + 1)) [])) := if_neg (Nat.succ_ne_zero _)
  have e2 : stB S L i = (L.getD (bI S L i) [], odC S (L.getD (bI S L i) [])) := if_neg h0
  rw [e2] at h
  rw [e, e2, bI_f h]
theorem stB_nn {S : Sm} {L : L3} {i : Nat} (hL : ∀ k, k < L.length → 0 ≤ odC S (L.getD k [])) (h0 : ¬ i = 0) (hi : i ≤ L.length) : 0 ≤ (stB S L i).2 := by
  have e2 : stB S L i = (L.getD (bI S L i) [], odC S (L.getD (bI S L i) [])) := if_neg h0
  rw [e2]
  have := bI_lt S L i (by omega)
  exact hL _ (by omega)
def sBest : CSpec := fnRB (ι := IS) 22 1 (fun | (c, zs, d, fs, e, o) => [.agg [.sl c zs.length (zs.map (.int .i64)), .sl d fs.length (fs.map (slI d)), .sl e o.length (o.map (.int .i64))]]) (fun _ => True) (fun | (_, zs, _, fs, _, o) => (beM (zs, fs, o)).1.length) (fun | (_, zs, _, fs, _, o) => (beM (zs, fs, o)).1.map (ownI 3)) (fun | (_, zs, _, fs, _, o) => (beM (zs, fs, o)).2)
theorem orA_w {L : L3} {c d e : Nat} {zs o : List Int} {fs : List (List Int)} {env : List AV} {rows : List Row} {ctr low : Nat} {k : AV → St → Prop} (hL : orA (zs, fs, o) = L) (h : k (.ref rows.length ctr 0 L.length) ⟨env, rows ++ [⟨ctr, 23, 1, unk3 3 22 L 0⟩], ctr + 1, low⟩) :
    CallB Try.prog 40 ⟨env, rows, ctr, low⟩ [.agg [.sl c zs.length (zs.map (.int .i64)), .sl d fs.length (fs.map (slI d)), .sl e o.length (o.map (.int .i64))]] k := by
  subst hL; exact iOrdersOf_call h
theorem sorA_w {L : L3} {c d e : Nat} {zs o : List Int} {fs : List (List Int)} {env : List AV} {rows : List Row} {ctr low : Nat} {k : AV → St → Prop} (hL : orA (zs, fs, o) = L) (h : k (.ref rows.length ctr 0 L.length) ⟨env, rows ++ [⟨ctr, 23, 1, L.map (own2 3 22)⟩], ctr + 1, low⟩) :
    CallB Try.prog 39 ⟨env, rows, ctr, low⟩ [.agg [.sl c zs.length (zs.map (.int .i64)), .sl d fs.length (fs.map (slI d)), .sl e o.length (o.map (.int .i64))]] k := by
  subst hL; exact sOrdersOf_call h
theorem get_set3 {t tt : TypeId} {L : L3} {k j : Nat} {r : AV} {K : AV → Prop} (h : k < L.length) (hj : j ≠ k) (hK : K (own2 t tt (L.getD k []))) : aGet (((L.map (own2 t tt)).set j r).drop (0 + (k : Int).toNat * 1)) 0 K := by
  refine aGet_in (u := own2 t tt (L.getD k [])) ?_ hK
  rw [List.getElem?_drop, Int.toNat_natCast, Nat.mul_one, Nat.zero_add, Nat.add_zero, List.getElem?_set_ne hj, List.getElem?_map, getD_eq (d := ([] : List (List Int))) h]
  rfl
theorem at_set1 {α : Type} {f : α → AV} {L : List α} {i b : Nat} {r r' : AV} (hb : b < L.length) : (((L.map f).set i r).set b r')[b]? = some r' := by
  rw [List.getElem?_set_self (by simp [hb])]
theorem at_set2 {α : Type} {f : α → AV} {L : List α} {i b : Nat} {r r' x : AV} (hi : i < L.length) (h : b ≠ i) : ((((L.map f).set i r).set b r').set b x)[i]? = some r := by
  rw [List.getElem?_set_ne h, List.getElem?_set_ne h, List.getElem?_set_self (by simp [hi])]
theorem le_set2 {t tt : TypeId} {L : L3} {i b : Nat} {r r' x y : AV} {p : Prop} (hi : i < L.length) (hb : b < L.length) (hx : x = own2 t tt (L.getD b [])) (hy : y = own2 t tt (L.getD i [])) : (pureL (((((L.map (own2 t tt)).set i r).set b r').set b x).set i y) = true ∧ L.map (own2 t tt) = ((((L.map (own2 t tt)).set i r).set b r').set b x).set i y) ∨ p := by
  subst hx; subst hy
  refine le_cells ?_ (pureL_o3 _ _ _)
  refine List.ext_getElem? fun j => ?_
  simp only [List.getElem?_set, List.length_set, List.length_map, List.getElem?_map]
  by_cases h1 : i = j
  · subst h1; simp [hi, getD_eq (d := ([] : List (List Int))) hi]
  · by_cases h2 : b = j
    · subst h2; simp [h1, hb, getD_eq (d := ([] : List (List Int))) hb]
    · simp [h1, h2]
theorem retG2 {env : List AV} {rows : List Row} {ctr τ ver n : Nat} {L : List (List Int)} {t : TypeId} {b : Bool} {M : List (List Int) × Bool} (hM : M = (L, b)) (hr : rows[τ]? = some ⟨ver, 22, 1, L.map (ownI t)⟩) (hn : n = L.length) :
    RetB ⟨env, rows, ctr, 0⟩ [] (fun r ic news => ic = [] ∧ r = .tup [.ref 0 0 0 M.1.length, .bool M.2] ∧ news = [⟨0, 22, 1, M.1.map (ownI t)⟩]) (.tup [.ref τ ver 0 n, .bool b]) := by
  subst hM; subst hn
  exact retRB hr (protL_oi _ _) rfl rfl rfl
end Go.Proofs.Ytmgggbgejdkamaa

/- Chapter 5: the best order, of the program. -/
namespace Go.Proofs.Ytmgggbgejdkamaa
set_option maxRecDepth 20000
open Go.RowKit Go.Am
set_option linter.unusedSimpArgs false
attribute [local irreducible] aPlan aGet aIf aLoop aCall RetB NextB CallB CallG aCut aSet aAppend
theorem best_e {S : Sm} {x : List (List Int) × Int} (hx : x = stB S (orA S) (orA S).length) (hL : ∀ k, k < (orA S).length → 0 ≤ odC S ((orA S).getD k [])) : beM S = (x.1, decide (0 ≤ x.2)) := by
  by_cases h : orA S = []
  · rw [be_f h, hx, h]; rfl
  · have h0 : ¬ (orA S).length = 0 := fun h' => h (List.eq_nil_of_length_eq_zero h')
    have hn := stB_nn hL h0 (Nat.le_refl _)
    rw [be_t h, hx, decide_eq_true hn]
    have e2 : stB S (orA S) (orA S).length = ((orA S).getD (bI S (orA S) (orA S).length) [], odC S ((orA S).getD (bI S (orA S) (orA S).length) [])) := if_neg h0
    rw [e2]
set_option maxHeartbeats 16000000 in
theorem iBest_sound : Sound Try.prog 45 sBest := by
  refine sound_of Try.func45 rfl (enters_of Try.func45 (by kernel_rfl) (by kernel_rfl)) ?_
  rintro ⟨c, zs, d, fs, q, o⟩ -
  have hmax : maxLen = 9223372036854775807 := rfl
  have hbe := fun (x : List (List Int) × Int) hx => best_e (S := (zs, fs, o)) (x := x) hx fun k hk => orA_nn (mem_getD (d := ([] : List (List Int))) hk)
  have hLc := (orA_P (zs, fs, o)).2.1
  have hLn : ∀ k, k < (orA (zs, fs, o)).length → 0 ≤ odC (zs, fs, o) ((orA (zs, fs, o)).getD k []) := fun k hk => orA_nn (mem_getD (d := ([] : List (List Int))) hk)
  obtain ⟨L, hL⟩ : ∃ L, orA (zs, fs, o) = L := ⟨_, rfl⟩
  rw [hL] at hbe hLc hLn
  conv => whnf
  repeat' (first
    | (refine orA_w hL ?_; conv => whnf)
    | (refine fun (_ : _ ≤ maxLen) => ?_; conv => whnf)
    | (refine load_same ?_; conv => whnf)
    | (refine And.intro rfl (And.intro (List.cons_ne_nil _ _) ?_); conv => whnf)
    | (refine And.intro (Nat.le_of_ble_eq_true rfl) ?_; conv => whnf)
    | (refine callG_t ?_; conv => whnf)
    | (refine append_same ?_; conv => whnf)
    | (refine And.intro (pureL_ii _ _) ?_; conv => whnf)
    | (refine takeN_in ?_; conv => whnf)
    | (refine And.intro (pureL_ints _ _) ?_; conv => whnf)
    | (refine And.intro (And.intro (by kernel_rfl) (And.intro rfl (Nat.le_of_ble_eq_true rfl))) ?_; conv => whnf)
    | (refine And.intro (by kernel_rfl) ?_; conv => whnf))
  all_goals (first | (exfalso; omega) | contradiction | skip)
  refine loop_to (ι := Nat × (List (List Int) × Int)) (fun | (i, x) => ⟨[.un, .ptr 0 1 0, .un, .un, .ref 2 3 0 x.1.length, .int .i64 x.2, .un, .un, .un, .un, .un, .ref 3 4 0 L.length, .int .i64 L.length, .int .i64 i, .un, .un, .un, .un, .un, .un, .un, .un, .un, .un, .un, .un, .un, .un, .un, .un, .un, .un, .un], [⟨1, 29, 3, [.sl c zs.length (zs.map (.int .i64)), .sl d fs.length (fs.map (slI d)), .sl q o.length (o.map (.int .i64))]⟩, ⟨2, 22, 1, []⟩, ⟨3, 22, 1, x.1.map (ownI 3)⟩, ⟨4, 23, 1, unk3 3 22 L i⟩], 9, 0⟩) (fun y => y.1 ≤ L.length ∧ y.2 = stB (zs, fs, o) L y.1) (fun y => L.length - y.1) (0, ([], -1)) ⟨Nat.zero_le _, rfl⟩ ?_ ?_
  · refine St.le.to ?_
    conv => whnf
    repeat' (first | exact le_unk3R | refine And.intro ?_ ?_)
    repeat' (first
      | exact trivial
      | exact rfl
      | exact pureL_ints _ _
      | exact Or.inl (And.intro rfl rfl)
      | exact pureL_ii _ _
      | refine Or.inr ?_
      | refine And.intro ?_ ?_
      | exact Nat.le_of_ble_eq_true rfl)
  · rintro ⟨i, x⟩ ⟨hi, hx⟩
    have hi : i ≤ L.length := hi
    have hx : x = stB (zs, fs, o) L i := hx
    by_cases hlt : i < L.length
    · have hw : IntKind.i64.wrap ((i : Int) + 1) = ((i + 1 : Nat) : Int) := IntWalk.i64_in _ (by omega)
      have hcn := hLn i hlt
      by_cases hc : i = 0 ∨ odC (zs, fs, o) (L.getD i []) < x.2
      · have hnx : (L.getD i [], odC (zs, fs, o) (L.getD i [])) = stB (zs, fs, o) L (i + 1) := (stB_t (by rw [← hx]; exact hc)).symm
        have hc2 : x.2 < 0 ∨ odC (zs, fs, o) (L.getD i []) < x.2 := hc.imp (fun h => by subst h; rw [hx, stB_0]; decide) id
        conv => whnf
        repeat' (first
          | (refine get_unk3 hlt rfl ?_; conv => whnf)
          | (refine aIf_t ?_; conv => whnf)
          | (refine aIf_f ?_; conv => whnf)
          | (refine And.intro (by omega) ?_; conv => whnf)
          | (refine load_same ?_; conv => whnf)
          | (refine And.intro (Nat.le_of_ble_eq_true rfl) ?_; conv => whnf)
          | (refine callG_t ?_; conv => whnf)
          | (refine append_same ?_; conv => whnf)
          | (refine And.intro (pureL_ii _ _) ?_; conv => whnf)
          | (refine cut_ii rfl ?_; conv => whnf)
          | (refine iOrderCost_call trivial ?_; conv => whnf)
          | (refine takeN_in ?_; conv => whnf)
          | (refine And.intro (pureL_ints _ _) ?_; conv => whnf)
          | (refine And.intro (by kernel_rfl) ?_; conv => whnf)
          | refine aIf_eqf ?_
          | (refine aIf_dec (fun _ => ?_) (fun _ => ?_) <;> conv => whnf))
        all_goals (first | (exfalso; omega) | contradiction | skip)
        all_goals refine next_to (i + 1, (L.getD i [], odC (zs, fs, o) (L.getD i []))) (show L.length - (i + 1) < L.length - i by omega) ⟨(by omega : i + 1 ≤ L.length), hnx⟩ ?_
        all_goals (refine to_force [] ?_; conv => whnf)
        all_goals (refine to_swap 2 4 [] _ _ rfl rfl (by decide) (Nat.zero_le _) (Nat.zero_le _) ?_; refine to_force [] ?_; conv => whnf)
        all_goals (refine St.le.to ?_; conv => whnf)
        all_goals
          repeat' (first | exact le_unk3 (by omega) hlt | refine And.intro ?_ ?_)
          repeat' (first
            | exact trivial
            | exact rfl
            | exact pureL_ints _ _
            | exact Or.inl (And.intro rfl rfl)
            | exact pureL_ii _ _
            | exact Or.inl (And.intro (pureL_oi _ _) rfl)
            | refine Or.inr ?_
            | refine And.intro ?_ ?_
            | exact Nat.le_of_ble_eq_true rfl
            | exact int_eq (by assumption))
      · have h0 : ¬ i = 0 := fun h => hc (.inl h)
        have hc1 : ¬ odC (zs, fs, o) (L.getD i []) < x.2 := fun h => hc (.inr h)
        have hnx : x = stB (zs, fs, o) L (i + 1) := hx.trans (stB_f h0 (by rw [← hx]; exact hc1)).symm
        have hxn : 0 ≤ x.2 := by rw [hx]; exact stB_nn hLn h0 hi
        conv => whnf
        repeat' (first
          | (refine get_unk3 hlt rfl ?_; conv => whnf)
          | (refine aIf_t ?_; conv => whnf)
          | (refine aIf_f ?_; conv => whnf)
          | (refine And.intro (by omega) ?_; conv => whnf)
          | (refine load_same ?_; conv => whnf)
          | (refine And.intro (Nat.le_of_ble_eq_true rfl) ?_; conv => whnf)
          | (refine callG_t ?_; conv => whnf)
          | (refine append_same ?_; conv => whnf)
          | (refine And.intro (pureL_ii _ _) ?_; conv => whnf)
          | (refine cut_ii rfl ?_; conv => whnf)
          | (refine iOrderCost_call trivial ?_; conv => whnf)
          | (refine takeN_in ?_; conv => whnf)
          | (refine And.intro (pureL_ints _ _) ?_; conv => whnf)
          | (refine And.intro (by kernel_rfl) ?_; conv => whnf)
          | refine aIf_eqf ?_
          | (refine aIf_dec (fun _ => ?_) (fun _ => ?_) <;> conv => whnf))
        all_goals (first | (exfalso; omega) | contradiction | skip)
        refine next_to (i + 1, x) (show L.length - (i + 1) < L.length - i by omega) ⟨(by omega : i + 1 ≤ L.length), hnx⟩ ?_
        refine St.le.to ?_
        conv => whnf
        repeat' (first | exact le_unk3 (by omega) hlt | refine And.intro ?_ ?_)
        repeat' (first
          | exact trivial
          | exact rfl
          | exact pureL_ints _ _
          | exact Or.inl (And.intro rfl rfl)
          | exact pureL_ii _ _
          | exact Or.inl (And.intro (pureL_oi _ _) rfl)
          | refine Or.inr ?_
          | refine And.intro ?_ ?_
          | exact Nat.le_of_ble_eq_true rfl
          | exact int_eq (by assumption))
    · have he : i = L.length := by omega
      subst he
      have hM := hbe x hx
      conv => whnf
      repeat' (first
        | (refine And.intro (by omega) ?_; conv => whnf)
        | (refine append_same ?_; conv => whnf)
        | (refine aIf_dec (fun _ => ?_) (fun _ => ?_) <;> conv => whnf))
      all_goals (first | (exfalso; omega) | contradiction | skip)
      exact retG2 hM rfl rfl
end Go.Proofs.Ytmgggbgejdkamaa

/- Chapter 5: the best order, of the model. -/
namespace Go.Proofs.Ytmgggbgejdkamaa
set_option maxRecDepth 20000
open Go.RowKit Go.Am
set_option linter.unusedSimpArgs false
attribute [local irreducible] aPlan aGet aIf aLoop aCall RetB NextB CallB CallG aCut aSet aAppend
set_option maxHeartbeats 16000000 in
theorem sBest_sound : Sound Try.prog 44 sBest := by
  refine sound_of Try.func44 rfl (enters_of Try.func44 (by kernel_rfl) (by kernel_rfl)) ?_
  rintro ⟨c, zs, d, fs, q, o⟩ -
  have hmax : maxLen = 9223372036854775807 := rfl
  have hLc := (orA_P (zs, fs, o)).2.1
  have hbt := be_t (S := (zs, fs, o))
  have hbf := be_f (S := (zs, fs, o))
  obtain ⟨L, hL⟩ : ∃ L, orA (zs, fs, o) = L := ⟨_, rfl⟩
  rw [hL] at hLc hbt hbf
  by_cases hn : L = []
  · have hM := hbf hn
    have hl0 : L.length = 0 := by rw [hn]; rfl
    conv => whnf
    repeat' (first
      | (refine sorA_w hL ?_; conv => whnf)
      | (refine plan_in (id := 8) [0, 1, 2, 3, 4, 6, 7, 8, 9, 10, 5, 11, 12] (by kernel_rfl) (by kernel_rfl) ?_; conv => whnf)
      | (refine fun (_ : _ ≤ maxLen) => ?_; conv => whnf)
      | (refine load_same ?_; conv => whnf)
      | (refine And.intro rfl (And.intro (List.cons_ne_nil _ _) ?_); conv => whnf)
      | (refine And.intro (Nat.le_of_ble_eq_true rfl) ?_; conv => whnf)
      | (refine callG_t ?_; conv => whnf)
      | (refine append_same ?_; conv => whnf)
      | (refine And.intro (pureL_ii _ _) ?_; conv => whnf)
      | (refine takeN_in ?_; conv => whnf)
      | (refine And.intro (pureL_ints _ _) ?_; conv => whnf)
      | (refine And.intro (by kernel_rfl) ?_; conv => whnf)
      | (refine aIf_dec (fun _ => ?_) (fun _ => ?_) <;> conv => whnf))
    all_goals (first | (exfalso; omega) | contradiction | skip)
    exact retG2 hM rfl rfl
  · have hM := hbt hn
    have hl0 : 0 < L.length := List.length_pos_iff.2 hn
    conv => whnf
    repeat' (first
      | (refine sorA_w hL ?_; conv => whnf)
      | (refine plan_in (id := 8) [0, 1, 2, 3, 4, 6, 7, 8, 9, 10, 5, 11, 12] (by kernel_rfl) (by kernel_rfl) ?_; conv => whnf)
      | (refine fun (_ : _ ≤ maxLen) => ?_; conv => whnf)
      | (refine load_same ?_; conv => whnf)
      | (refine And.intro rfl (And.intro (List.cons_ne_nil _ _) ?_); conv => whnf)
      | (refine And.intro (Nat.le_of_ble_eq_true rfl) ?_; conv => whnf)
      | (refine callG_t ?_; conv => whnf)
      | (refine append_same ?_; conv => whnf)
      | (refine And.intro (pureL_ii _ _) ?_; conv => whnf)
      | (refine takeN_in ?_; conv => whnf)
      | (refine And.intro (pureL_ints _ _) ?_; conv => whnf)
      | (refine And.intro (by kernel_rfl) ?_; conv => whnf)
      | (refine aIf_dec (fun _ => ?_) (fun _ => ?_) <;> conv => whnf))
    all_goals (first | (exfalso; omega) | contradiction | skip)
    refine loop_to (ι := Nat) (fun i => ⟨[.un, .ptr 0 1 0, .un, .un, .ref 2 3 0 L.length, .int .i64 (bI (zs, fs, o) L (i + 1) : Nat), .int .i64 ((i + 1 : Nat) : Int), .un, .un, .un, .un, .un, .un, .un, .un, .un, .un, .un, .un, .un, .un, .un, .un, .un, .un, .un, .un, .un, .un, .un, .un, .un, .un, .un, .un, .un], [⟨1, 29, 3, [.sl c zs.length (zs.map (.int .i64)), .sl d fs.length (fs.map (slI d)), .sl q o.length (o.map (.int .i64))]⟩, ⟨2, 22, 1, []⟩, ⟨3, 23, 1, L.map (own2 3 22)⟩], 9, 0⟩) (fun i => i + 1 ≤ L.length) (fun i => L.length - i) 0 (by exact (by omega : 0 + 1 ≤ L.length)) ?_ ?_
    · have e1 := bI_1 (zs, fs, o) L
      refine St.le.to ?_
      conv => whnf
      repeat' (first | exact le_cells rfl (pureL_o3 _ _ _) | exact int_eq (by rw [e1]; rfl) | refine And.intro ?_ ?_)
      repeat' (first
        | exact trivial
        | exact rfl
        | exact pureL_ints _ _
        | exact Or.inl (And.intro rfl rfl)
        | exact pureL_ii _ _
        | refine Or.inr ?_
        | refine And.intro ?_ ?_
        | exact Nat.le_of_ble_eq_true rfl)
    · intro i hi
      have hi : i + 1 ≤ L.length := hi
      have hb := bI_lt (zs, fs, o) L (i + 1) (Nat.succ_pos _)
      obtain ⟨b, hbe⟩ : ∃ b, bI (zs, fs, o) L (i + 1) = b := ⟨_, rfl⟩
      rw [hbe] at hb ⊢
      by_cases hlt : i + 1 < L.length
      · have hw : IntKind.i64.wrap (((i + 1 : Nat) : Int) + 1) = ((i + 1 + 1 : Nat) : Int) := IntWalk.i64_in _ (by omega)
        have hbl : b < L.length := by omega
        have ei : 0 + ((i + 1 : Nat) : Int).toNat * 1 = i + 1 := by omega
        have eb : 0 + ((b : Nat) : Int).toNat * 1 = b := by omega
        by_cases hc : odC (zs, fs, o) (L.getD (i + 1) []) < odC (zs, fs, o) (L.getD b [])
        · have hnx : bI (zs, fs, o) L (i + 1 + 1) = i + 1 := bI_t (by rw [hbe]; exact hc)
          conv => whnf
          repeat' (first
            | (refine get_o3_n (k := i + 1) hlt ?_; conv => whnf)
            | (refine get_set3 (k := b) hbl (by omega) ?_; conv => whnf)
            | (refine plan_in (id := 8) [0, 1, 2, 3, 4, 6, 7, 8, 9, 10, 5, 11, 12] (by kernel_rfl) (by kernel_rfl) ?_; conv => whnf)
            | (refine fun (_ : _ ≤ maxLen) => ?_; conv => whnf)
            | (refine And.intro (by omega) ?_; conv => whnf)
            | (refine load_same ?_; conv => whnf)
            | (refine And.intro (Nat.le_of_ble_eq_true rfl) ?_; conv => whnf)
            | (refine append_same ?_; conv => whnf)
            | (refine And.intro (pureL_ii _ _) ?_; conv => whnf)
            | (refine cut_ii rfl ?_; conv => whnf)
            | (refine get_o3_n (by omega) ?_; conv => whnf)
            | (refine sOrderCost_call trivial ?_; conv => whnf)
            | (refine takeN_in ?_; conv => whnf)
            | (refine And.intro (pureL_ints _ _) ?_; conv => whnf)
            | (refine And.intro (by kernel_rfl) ?_; conv => whnf)
            | (refine aIf_dec (fun _ => ?_) (fun _ => ?_) <;> conv => whnf))
          all_goals (first | (exfalso; omega) | contradiction | skip)
          refine next_to (i + 1) (show L.length - (i + 1) < L.length - i by omega) (by exact (by omega : i + 1 + 1 ≤ L.length)) ?_
          refine to_force [] ?_
          conv => whnf
          refine to_close 2 (0 + ((b : Nat) : Int).toNat * 1) 4 _ _ 1 22 _ _ rfl (at_set1 (by omega)) rfl (by decide) (Nat.zero_le _) (by decide) (by simp) ?_
          refine to_force [] ?_
          conv => whnf
          refine to_close 2 (0 + ((i + 1 : Nat) : Int).toNat * 1) 3 _ _ 1 22 _ _ rfl (at_set2 (by omega) (by omega)) rfl (by decide) (Nat.zero_le _) (by decide) (by simp) ?_
          refine to_force [] ?_
          conv => whnf
          refine St.le.to ?_
          conv => whnf
          repeat' (first | exact le_set2 (by omega) (by omega) (by rw [eb]; rfl) (by rw [ei]; rfl) | exact int_eq (by rw [hnx]) | refine And.intro ?_ ?_)
          repeat' (first
            | exact trivial
            | exact rfl
            | exact pureL_ints _ _
            | exact Or.inl (And.intro rfl rfl)
            | exact pureL_ii _ _
            | refine Or.inr ?_
            | refine And.intro ?_ ?_
            | exact Nat.le_of_ble_eq_true rfl
            | exact int_eq (by assumption))
        · have hnx : bI (zs, fs, o) L (i + 1 + 1) = b := (bI_f (by rw [hbe]; exact hc)).trans hbe
          conv => whnf
          repeat' (first
            | (refine get_o3_n (k := i + 1) hlt ?_; conv => whnf)
            | (refine get_set3 (k := b) hbl (by omega) ?_; conv => whnf)
            | (refine plan_in (id := 8) [0, 1, 2, 3, 4, 6, 7, 8, 9, 10, 5, 11, 12] (by kernel_rfl) (by kernel_rfl) ?_; conv => whnf)
            | (refine fun (_ : _ ≤ maxLen) => ?_; conv => whnf)
            | (refine And.intro (by omega) ?_; conv => whnf)
            | (refine load_same ?_; conv => whnf)
            | (refine And.intro (Nat.le_of_ble_eq_true rfl) ?_; conv => whnf)
            | (refine append_same ?_; conv => whnf)
            | (refine And.intro (pureL_ii _ _) ?_; conv => whnf)
            | (refine cut_ii rfl ?_; conv => whnf)
            | (refine get_o3_n (by omega) ?_; conv => whnf)
            | (refine sOrderCost_call trivial ?_; conv => whnf)
            | (refine takeN_in ?_; conv => whnf)
            | (refine And.intro (pureL_ints _ _) ?_; conv => whnf)
            | (refine And.intro (by kernel_rfl) ?_; conv => whnf)
            | (refine aIf_dec (fun _ => ?_) (fun _ => ?_) <;> conv => whnf))
          all_goals (first | (exfalso; omega) | contradiction | skip)
          refine next_to (i + 1) (show L.length - (i + 1) < L.length - i by omega) (by exact (by omega : i + 1 + 1 ≤ L.length)) ?_
          refine to_force [] ?_
          conv => whnf
          refine to_close 2 (0 + ((b : Nat) : Int).toNat * 1) 4 _ _ 1 22 _ _ rfl (at_set1 (by omega)) rfl (by decide) (Nat.zero_le _) (by decide) (by simp) ?_
          refine to_force [] ?_
          conv => whnf
          refine to_close 2 (0 + ((i + 1 : Nat) : Int).toNat * 1) 3 _ _ 1 22 _ _ rfl (at_set2 (by omega) (by omega)) rfl (by decide) (Nat.zero_le _) (by decide) (by simp) ?_
          refine to_force [] ?_
          conv => whnf
          refine St.le.to ?_
          conv => whnf
          repeat' (first | exact le_set2 (by omega) (by omega) (by rw [eb]; rfl) (by rw [ei]; rfl) | exact int_eq (by rw [hnx]) | refine And.intro ?_ ?_)
          repeat' (first
            | exact trivial
            | exact rfl
            | exact pureL_ints _ _
            | exact Or.inl (And.intro rfl rfl)
            | exact pureL_ii _ _
            | refine Or.inr ?_
            | refine And.intro ?_ ?_
            | exact Nat.le_of_ble_eq_true rfl
            | exact int_eq (by assumption))
      · have he : i + 1 = L.length := by omega
        have hbl : b < L.length := by omega
        rw [← he, hbe] at hM
        conv => whnf
        repeat' (first
          | (refine get_o3_n (k := b) hbl ?_; conv => whnf)
          | (refine plan_in (id := 8) [0, 1, 2, 3, 4, 6, 7, 8, 9, 10, 5, 11, 12] (by kernel_rfl) (by kernel_rfl) ?_; conv => whnf)
          | (refine fun (_ : _ ≤ maxLen) => ?_; conv => whnf)
          | (refine And.intro (by omega) ?_; conv => whnf)
          | (refine load_same ?_; conv => whnf)
          | (refine append_same ?_; conv => whnf)
          | (refine get_o3_n (by omega) ?_; conv => whnf)
          | (refine takeN_in ?_; conv => whnf)
          | (refine aIf_dec (fun _ => ?_) (fun _ => ?_) <;> conv => whnf))
        all_goals (first | (exfalso; omega) | contradiction | skip)
        exact retG2 hM rfl rfl
end Go.Proofs.Ytmgggbgejdkamaa

/- Chapter 5: BestOrder in the law. -/
namespace Go.Proofs.Ytmgggbgejdkamaa
set_option maxRecDepth 20000
open Go.RowKit Go.Am
set_option linter.unusedSimpArgs false
theorem sBest_call {c d e : Nat} {zs o : List Int} {fs : List (List Int)} {env : List AV} {rows : List Row} {ctr low : Nat} {k : AV → St → Prop} (h : k (.tup [.ref rows.length ctr 0 (beM (zs, fs, o)).1.length, .bool (beM (zs, fs, o)).2]) ⟨env, rows ++ [⟨ctr, 22, 1, (beM (zs, fs, o)).1.map (ownI 3)⟩], ctr + 1, low⟩) :
    CallB Try.prog 44 ⟨env, rows, ctr, low⟩ [.agg [.sl c zs.length (zs.map (.int .i64)), .sl d fs.length (fs.map (slI d)), .sl e o.length (o.map (.int .i64))]] k := callRB_in sBest_sound (c, zs, d, fs, e, o) trivial (protL_oi _ _) h
theorem iBest_call {c d e : Nat} {zs o : List Int} {fs : List (List Int)} {env : List AV} {rows : List Row} {ctr low : Nat} {k : AV → St → Prop} (h : k (.tup [.ref rows.length ctr 0 (beM (zs, fs, o)).1.length, .bool (beM (zs, fs, o)).2]) ⟨env, rows ++ [⟨ctr, 22, 1, (beM (zs, fs, o)).1.map (ownI 3)⟩], ctr + 1, low⟩) :
    CallB Try.prog 45 ⟨env, rows, ctr, low⟩ [.agg [.sl c zs.length (zs.map (.int .i64)), .sl d fs.length (fs.map (slI d)), .sl e o.length (o.map (.int .i64))]] k := callRB_in iBest_sound (c, zs, d, fs, e, o) trivial (protL_oi _ _) h
theorem orA_3 (S : Sm) (o : List (List Int)) (ho : o ∈ orA S) : o.length ≤ 3 := by
  by_cases hs : sumP S.1 S.2.1 S.2.2
  · have h4 := hs.2.2.1
    have e : orA S = ords S.2.1.length S := orM_t hs
    rw [e] at ho
    have := (ords_len S.2.1.length S rfl o ho).1
    omega
  · have e : orA S = [] := orM_f hs
    rw [e] at ho; exact nomatch ho
theorem beM_size (S : Sm) : (beM S).1.length + tot (beM S).1 ≤ 1000 := by
  by_cases h : orA S = []
  · rw [be_f h]; exact Nat.zero_le _
  · rw [be_t h]
    have h0 : 0 < (orA S).length := List.length_pos_iff.2 h
    have hb := bI_lt S (orA S) (orA S).length h0
    obtain ⟨hP, hl, h3⟩ := orA_P S
    have ht := (l3P_at hP hb)
    have h4 := sum_take_le tot (orA S) (bI S (orA S) (orA S).length + 1)
    have h4 : tot3 ((orA S).take (bI S (orA S) (orA S).length + 1)) ≤ tot3 (orA S) := h4
    have h5 := tot3_succ hb
    have h6 := orA_3 S _ (mem_getD (d := ([] : List (List Int))) hb)
    show ((orA S).getD (bI S (orA S) (orA S).length) []).length + tot ((orA S).getD (bI S (orA S) (orA S).length) []) ≤ 1000
    omega
end Go.Proofs.Ytmgggbgejdkamaa
