/- The abstract machine, part C: the other operations that yield a value; all of them in one. -/
import Derived.Test.YtegoncendpboiaaAmB
namespace Go.Am
open Go.RowKit
variable {D : Nat → Prop}
section
variable {P : Program} {w : World} {φ : Places} {s : St} {env : List Value}

theorem VR.int_inv {v : Value} {j : IntKind} {n : Int} {rows : List Row} {ctr : Nat} (h : VR D w φ rows ctr v (.int j n)) : v = .int j n := by cases h; rfl
theorem VR.bool_inv {v : Value} {b : Bool} {rows : List Row} {ctr : Nat} (h : VR D w φ rows ctr v (.bool b)) : v = .bool b := by cases h; rfl
theorem VR.str_inv {v : Value} {b : ByteArray} {rows : List Row} {ctr : Nat} (h : VR D w φ rows ctr v (.str b)) : v = .string b := by cases h; rfl

theorem VR.sl_inv {v : Value} {c n : Nat} {cells : List AV} {rows : List Row} {ctr : Nat} (h : VR D w φ rows ctr v (.sl c n cells)) : ∃ A cap, v = .slice A n cap ∧ n ≤ cap ∧ cap ≤ maxLen ∧
    (n = 0 ∧ cells = [] ∨ ∃ ad, A = some ad) := by
  cases h with
  | sl0 A cap c hm => exact ⟨A, cap, rfl, Nat.zero_le _, hm, .inl ⟨rfl, rfl⟩⟩
  | sl ad c n cap cells vs hs hF hD hlt hn hm hl hc h1 hv => exact ⟨some ad, cap, rfl, hn, hm, .inr ⟨ad, rfl⟩⟩

theorem add_of_add (a : Addr) (i j : Nat) : (a.add i).add j = a.add (i + j) := by
  unfold Addr.add
  by_cases hi : i = 0 <;> by_cases hj : j = 0 <;> simp [hi, hj, Nat.add_assoc]
theorem add_spot {a : Addr} (h : a.spot = none) (n : Nat) : (a.add n).spot = none := by unfold Addr.add; split <;> simp [h]

/-- A part of a slice that nobody writes, as a place to read. -/
theorem VR.rd_of_sl {ad : Addr} {c n cap : Nat} {cells : List AV} {rows : List Row} {ctr : Nat} (h : VR D w φ rows ctr (.slice (some ad) n cap) (.sl c n cells)) (hn : 0 < n) (o : Nat) : VR D w φ rows ctr (.pointer (some (ad.add o))) (.rd (cells.drop o)) := by
  cases h with
  | sl0 A cap c hm => omega
  | sl _ _ _ _ _ vs hs hF hD hlt hn hm hl hc h1 hv =>
    refine .rd _ _ (vs.drop o) (add_spot hs o) (by rw [block_of_add]; exact hF) (by rw [block_of_add]; exact hlt) (by simp [hl]) (fun j hj => ?_) (fun v hm => h1 v (List.mem_of_mem_drop hm)) (fun j v u hv' hu => ?_)
    · simp only [List.length_drop] at hj
      rw [add_of_add, hc _ (by omega), List.getElem?_drop]
    · rw [List.getElem?_drop] at hv' hu
      exact hv _ v u hv' hu

theorem VR.rd_drop {ad : Addr} {cells : List AV} {rows : List Row} {ctr : Nat} (h : VR D w φ rows ctr (.pointer (some ad)) (.rd cells)) (o : Nat) : VR D w φ rows ctr (.pointer (some (ad.add o))) (.rd (cells.drop o)) := by
  cases h with
  | rd _ _ vs hs hF hlt hl hc h1 hv =>
    refine .rd _ _ (vs.drop o) (add_spot hs o) (by rw [block_of_add]; exact hF) (by rw [block_of_add]; exact hlt) (by simp [hl]) (fun j hj => ?_) (fun v hm => h1 v (List.mem_of_mem_drop hm)) (fun j v u hv' hu => ?_)
    · simp only [List.length_drop] at hj
      rw [add_of_add, hc _ (by omega), List.getElem?_drop]
    · rw [List.getElem?_drop] at hv' hu
      exact hv _ v u hv' hu

theorem aIndexAddr_ok {t : TypeId} {x i : AV} {xv iv : Value} {k : AV → Prop} (hx : VR D w φ s.rows s.ctr xv x) (hi : VR D w φ s.rows s.ctr iv i) (hk : aIndexAddr P s t x i k) :
    ∃ v u, (∀ w', (Instr.indexAt t xv iv).run P w' = .ok v w') ∧ VR D w φ s.rows s.ctr v u ∧ k u := by
  unfold aIndexAddr at hk
  split at hk
  · rename_i e hd
    split at hk
    case h_2 => exact hk.elim
    rename_i j i
    have := hi.int_inv; subst this
    split at hk
    · rename_i c n cells
      obtain ⟨z, hz, _, ⟨h0, h1⟩, hk⟩ := aSz_out hk
      obtain ⟨A, cap, rfl, _, _, hA⟩ := hx.sl_inv
      rcases hA with ⟨rfl, rfl⟩ | ⟨ad, rfl⟩
      · omega
      · refine ⟨.pointer (some (ad.add (i.toNat * z))), _, fun w' => ?_, hx.rd_of_sl (by omega) _, hk⟩
        simp [Instr.indexAt, asIntOf, run_underlying hd, run_tsz hz, h0, h1]
    · rename_i τ ver off n
      obtain ⟨z, hz, _, hk⟩ := aSz_out hk
      obtain ⟨r, hr, hver, ⟨h0, h1⟩, hk⟩ := aRow_out hk
      cases hx with
      | ref _ _ _ _ _ hlt h1' h =>
        rcases h r hr hver with ⟨_, _, rfl, _⟩ | ⟨g, A, cap, cur, a1, rfl, a3, a4, a5, a6, a7, a8⟩
        · omega
        · have hA := a6 (.inr (by omega)); subst hA
          refine ⟨.pointer (some ⟨g, off + i.toNat * z, none⟩), _, fun w' => ?_, .ptr τ ver _ _ hlt rfl fun r' hr' hv' => ⟨g, a1, rfl⟩, hk⟩
          simp [Instr.indexAt, asIntOf, run_underlying hd, run_tsz hz, h0, h1, add_mk]
    · exact hk.elim
  · exact hk.elim

def aFieldAddr (P : Program) (s : St) (t : TypeId) (p : AV) (f : Nat) (k : AV → Prop) : Prop :=
  match P.underlying t with
  | some (.struct fields) =>
    match fields[f]? with
    | some fd => aSz P fd.type fun _ =>
      match p with
      | .rd cells => k (.rd (cells.drop fd.offset))
      | .ptr τ ver off => aRow s τ ver fun _ => k (.ptr τ ver (off + fd.offset))
      | _ => False
    | none => False
  | _ => False

theorem aFieldAddr_ok {t : TypeId} {p : AV} {pv : Value} {f : Nat} {k : AV → Prop} (hp : VR D w φ s.rows s.ctr pv p) (hk : aFieldAddr P s t p f k) :
    ∃ v u, (∀ w', (Instr.fieldAt t pv f).run P w' = .ok v w') ∧ VR D w φ s.rows s.ctr v u ∧ k u := by
  unfold aFieldAddr at hk
  split at hk
  · rename_i fields hd
    split at hk
    case h_2 => exact hk.elim
    rename_i fd hf
    obtain ⟨z, hz, hz0, hk⟩ := aSz_out hk
    split at hk
    · obtain ⟨ad, rfl⟩ := hp.rd_inv
      refine ⟨.pointer (some (ad.add fd.offset)), _, fun w' => ?_, hp.rd_drop _, hk⟩
      simp [Instr.fieldAt, Instr.sureAddr, run_underlying hd, hf, fieldPlace, run_tsz hz, hz0]
    · rename_i τ ver off _
      obtain ⟨r, hr, hver, hk⟩ := aRow_out hk
      cases hp with
      | ptr _ _ _ _ hlt h1 hx =>
        obtain ⟨g, hg, rfl⟩ := hx r hr hver
        refine ⟨.pointer (some ⟨g, off + fd.offset, none⟩), _, fun w' => ?_, .ptr τ ver _ _ hlt rfl fun r' hr' hv' => ⟨g, hg, rfl⟩, hk⟩
        simp [Instr.fieldAt, Instr.sureAddr, run_underlying hd, hf, fieldPlace, run_tsz hz, hz0, add_mk]
    · exact hk.elim
  · exact hk.elim

def aField (P : Program) (t : TypeId) (x : AV) (f : Nat) (k : AV → Prop) : Prop :=
  match P.underlying t with
  | some (.struct fields) =>
    match x with
    | .agg cells =>
      match fields[f]? with
      | some fd => aPart P fd.type (cells.drop fd.offset) k
      | none => False
    | _ => False
  | _ => False

theorem aField_ok {t : TypeId} {x : AV} {xv : Value} {f : Nat} {k : AV → Prop} (hx : VR D w φ s.rows s.ctr xv x) (hk : aField P t x f k) :
    ∃ v u, (∀ w', (Instr.field t xv f).run P w' = .ok v w') ∧ VR D w φ s.rows s.ctr v u ∧ k u := by
  unfold aField at hk
  split at hk
  · rename_i fields hd
    split at hk
    case h_2 => exact hk.elim
    rename_i cells
    split at hk
    case h_2 => exact hk.elim
    rename_i fd hf
    cases hx with
    | agg cs _ hl h1 hv =>
      unfold aPart at hk
      split at hk
      · rename_i d hd'
        split at hk
        · rename_i hagg
          obtain ⟨n, hn, _, hk⟩ := aSz_out hk
          obtain ⟨hle, _, hk⟩ := takeN_out hk
          refine ⟨.agg (cs.extract fd.offset (fd.offset + n)), .agg ((cells.drop fd.offset).take n), fun w' => ?_, ?_, hk⟩
          · simp [Instr.field, run_underlying hd, hf, part, run_isAgg hd', hagg, asAgg, run_tsz hn]
          · simp only [List.length_drop] at hle
            refine .agg _ _ (by simp [List.length_take]; omega) (fun j v hj => ?_) (fun j v u hj hu => ?_)
            · rw [Array.getElem?_extract] at hj
              split at hj
              · exact h1 _ v hj
              · cases hj
            · rw [Array.getElem?_extract] at hj
              rw [List.getElem?_take] at hu
              split at hu
              · rw [List.getElem?_drop] at hu
                split at hj
                · exact hv _ v u hj hu
                · cases hj
              · cases hu
        · rename_i hagg
          obtain ⟨u, hu, hk⟩ := hk
          have hk : k u := by cases u <;> first | exact hk | exact hk.elim
          rw [List.getElem?_drop] at hu
          have hlt : fd.offset < cs.size := by rw [hl]; have := (List.getElem?_eq_some_iff.1 hu).1; omega
          have hc : cs[fd.offset]? = some cs[fd.offset] := Array.getElem?_eq_getElem hlt
          refine ⟨cs[fd.offset], u, fun w' => ?_, hv _ _ u hc hu, hk⟩
          have hagg' : isAggD d = false := by simpa using hagg
          simp [Instr.field, run_underlying hd, hf, part, run_isAgg hd', hagg', asAgg, hc]
      · exact hk.elim
  · exact hk.elim

theorem aBin_ok {op : BinOp} {t : TypeId} {x y : AV} {xv yv : Value} {xo yo : Operand} {k : AV → Prop} (hx : VR D w φ s.rows s.ctr xv x) (hy : VR D w φ s.rows s.ctr yv y) (hk : aBin P op t x y k) :
    ∃ v u, (∀ w', (do eqGuard op t xo yo xv yv; binOp op t xv yv : Sem Value).run P w' = .ok v w') ∧ VR D w φ s.rows s.ctr v u ∧ k u := by
  unfold aBin at hk
  split at hk
  · rename_i j a j' b
    split at hk
    case isFalse => exact hk.elim
    rename_i hjj
    subst hjj
    have := hx.int_inv; subst this
    have := hy.int_inv; subst this
    have hg : ∀ w', (eqGuard op t xo yo (.int j a) (.int j b)).run P w' = .ok () w' := fun w' => by unfold eqGuard; cases op <;> rfl
    cases op
    case xor => exact ⟨.int j (xorI j a b), _, fun w' => by simp only [Sem.run_bind, hg, binOp, Result.andThen_ok, ne_eq, not_true, if_false]; rfl, .int _ _, hk⟩
    case and => exact ⟨.int j (andI j a b), _, fun w' => by simp only [Sem.run_bind, hg, binOp, Result.andThen_ok, ne_eq, not_true, if_false]; rfl, .int _ _, hk⟩
    case or => exact ⟨.int j (orI j a b), _, fun w' => by simp only [Sem.run_bind, hg, binOp, Result.andThen_ok, ne_eq, not_true, if_false]; rfl, .int _ _, hk⟩
    all_goals simp only at hk
    all_goals first
      | exact hk.elim
      | (obtain ⟨h0, hk⟩ := hk; exact ⟨_, _, fun w' => by simp [hg, binOp, Op.intDiv, h0], .int _ _, hk⟩)
      | exact ⟨_, _, fun w' => by simp [hg, binOp, Op.intArith], .int _ _, hk⟩
      | exact ⟨_, _, fun w' => by simp [hg, binOp, Op.intCmp], .bool _, hk⟩
  · rename_i a b
    obtain ⟨hd, hk⟩ := hk
    have := hx.bool_inv; subst this
    have := hy.bool_inv; subst this
    have hg : ∀ w', (eqGuard op t xo yo (.bool a) (.bool b)).run P w' = .ok () w' := fun w' => by unfold eqGuard; cases op <;> rfl
    have he : ∀ w', (Op.equal t (.bool a) (.bool b)).run P w' = .ok (a == b) w' := fun w' => by
      unfold Op.equal Op.maxDepth
      rw [Op.equalIn]
      simp only [Sem.run_bind, run_underlying hd, Result.andThen_ok]
      rfl
    cases op
    case eql => exact ⟨.bool (a == b), _, fun w' => by simp [hg, binOp, he], .bool _, hk⟩
    case neq => exact ⟨.bool (!(a == b)), _, fun w' => by simp only [Sem.run_bind, hg, binOp, he, Result.andThen_ok, Sem.run_pure], .bool _, hk⟩
    all_goals exact hk.elim
  · rename_i a b
    have := hx.str_inv; subst this
    have := hy.str_inv; subst this
    have hg : ∀ w', (eqGuard op t xo yo (.string a) (.string b)).run P w' = .ok () w' := fun w' => by unfold eqGuard; cases op <;> rfl
    have h63 : IntKind.i64.max = 9223372036854775807 := rfl
    cases op <;> simp only at hk <;> first
      | exact hk.elim
      | (obtain ⟨h0, hk⟩ := hk; exact ⟨_, _, fun w' => by
          have : ¬ (IntKind.i64.max < ((a.size + b.size : Nat) : Int)) := by rw [h63]; omega
          simp only [Sem.run_bind, hg, Result.andThen_ok, binOp, Op.stringOp, gt_iff_lt, this, if_false, Sem.run_pure], .str _, hk⟩)
      | exact ⟨_, _, fun w' => by simp only [Sem.run_bind, hg, Result.andThen_ok, binOp, Op.stringOp, Sem.run_pure]; first | done | rfl, .bool _, hk⟩
  · exact hk.elim

theorem aUn_ok {op : UnOp} {x : AV} {xv : Value} {k : AV → Prop} (hx : VR D w φ s.rows s.ctr xv x) (hk : aUn op x k) :
    ∃ v u, (∀ w', (Op.unary op xv).run P w' = .ok v w') ∧ VR D w φ s.rows s.ctr v u ∧ k u := by
  unfold aUn at hk
  split at hk
  · have := hx.int_inv; subst this
    exact ⟨_, _, fun w' => by simp only [Op.unary, Op.intArith, Sem.run_pure], .int _ _, hk⟩
  · have := hx.bool_inv; subst this
    exact ⟨_, _, fun w' => by simp only [Op.unary, Sem.run_pure], .bool _, hk⟩
  · exact hk.elim

theorem aConv_ok {src dst : TypeId} {d : TypeDesc} {x : AV} {xv : Value} {k : AV → Prop} (hs : P.underlying src = some d) (hx : VR D w φ s.rows s.ctr xv x) (hk : aConv P dst x k) :
    ∃ v u, (∀ w', (convert src dst xv).run P w' = .ok v w') ∧ VR D w φ s.rows s.ctr v u ∧ k u := by
  unfold aConv at hk
  split at hk
  · rename_i j hd
    split at hk
    case h_2 => exact hk.elim
    have := hx.int_inv; subst this
    exact ⟨_, _, fun w' => by simp only [convert, Sem.run_bind, run_underlying hs, run_underlying hd, Result.andThen_ok, Conv.intToInt, Sem.run_pure], .int _ _, hk⟩
  · rename_i hd
    split at hk
    case h_2 => exact hk.elim
    have := hx.str_inv; subst this
    exact ⟨_, _, fun w' => by simp only [convert, Sem.run_bind, run_underlying hs, run_underlying hd, Result.andThen_ok, Sem.run_pure], .str _, hk⟩
  · exact hk.elim

theorem run_bound (P : Program) (j : IntKind) (i : Int) (y : Nat) (c : BoundsCode) (h : 0 ≤ i ∧ i ≤ y) (w : World) : (Instr.sliceBound (.int j i) y c).run P w = .ok i.toNat w := by
  simp [Instr.sliceBound, asIntOf, h.1, h.2]

/-- A part of a slice that nobody writes. -/
theorem VR.cut {A : Option Addr} {c n cap : Nat} {cells : List AV} {rows : List Row} {ctr : Nat} (h : VR D w φ rows ctr (.slice A n cap) (.sl c n cells)) {z l m : Nat} (hl : l + m ≤ n) (hz : n * z ≤ cells.length) :
    VR D w φ rows ctr (.slice (if cap - l = 0 then A else A.map (·.add (l * z))) m (cap - l)) (.sl c m ((cells.drop (l * z)).take (m * z))) := by
  cases h with
  | sl0 A cap c hm =>
    have h0 : m = 0 := by omega
    subst h0
    simp only [Nat.zero_mul, List.take_zero]
    exact .sl0 _ _ _ (by omega)
  | sl ad _ _ _ _ vs hs hF hD hlt hn hm hl' hc h1 hv =>
    by_cases h0 : m = 0
    · subst h0
      simp only [Nat.zero_mul, List.take_zero]
      exact .sl0 _ _ _ (by omega)
    · have hne : ¬ (cap - l = 0) := by omega
      simp only [hne, if_false, Option.map_some]
      have hlz : l * z + m * z ≤ cells.length := by
        have : (l + m) * z ≤ n * z := Nat.mul_le_mul_right z hl
        rw [Nat.add_mul] at this
        omega
      refine .sl _ c m (cap - l) _ ((vs.drop (l * z)).take (m * z)) (add_spot hs _) (by rw [block_of_add]; exact hF) (by rw [block_of_add]; exact hD) (by rw [block_of_add]; exact hlt) (by omega) (by omega) (by simp [hl']) (fun j hj => ?_) (fun v hm' => h1 v (List.mem_of_mem_drop (List.mem_of_mem_take hm'))) (fun j v u hv' hu => ?_)
      · simp only [List.length_take, List.length_drop] at hj
        rw [add_of_add, hc _ (by omega), List.getElem?_take, if_pos (by omega), List.getElem?_drop]
      · rw [List.getElem?_take] at hv' hu
        split at hv'
        · rename_i hlt'
          rw [if_pos hlt'] at hu
          rw [List.getElem?_drop] at hv' hu
          exact hv _ v u hv' hu
        · cases hv'

theorem aSlice_ok {t : TypeId} {x : AV} {xv : Value} {lo hi : Option AV} {lov hiv : Option Value} {k : AV → Prop} (hx : VR D w φ s.rows s.ctr xv x)
    (hlo : match lo, lov with | some u, some v => VR D w φ s.rows s.ctr v u | none, none => True | _, _ => False) (hhi : match hi, hiv with | some u, some v => VR D w φ s.rows s.ctr v u | none, none => True | _, _ => False)
    (hk : aSlice P s t x lo hi k) :
    ∃ v u, (∀ w', (Instr.sliceAt t xv lov hiv none).run P w' = .ok v w') ∧ VR D w φ s.rows s.ctr v u ∧ k u := by
  unfold aSlice at hk
  split at hk
  · rename_i e hd
    split at hk
    case h_3 => exact hk.elim
    case h_2 =>
      rename_i τ ver off n
      split at hk
      case h_2 => exact hk.elim
      cases lov with
      | some _ => simp at hlo
      | none =>
      split at hk
      case h_2 => exact hk.elim
      rename_i j h
      cases hiv with
      | none => simp at hhi
      | some hv =>
      simp only at hhi
      have := hhi.int_inv; subst this
      obtain ⟨z, hz, _, hk⟩ := aSz_out hk
      obtain ⟨r, hr, hver, ⟨h0, h1⟩, hk'⟩ := aRow_out hk
      cases hx with
      | ref _ _ _ _ _ hlt h1c hx =>
        rcases hx r hr hver with ⟨a1, rfl, rfl, rfl⟩ | ⟨g, A, cap, cur, a1, rfl, a3, a4, a5, a6, a7, a8⟩
        · have hh : h = 0 := by omega
          subst hh
          refine ⟨.slice none 0 0, _, fun w' => ?_, .ref _ _ _ _ _ hlt rfl fun r' hr' hv' => .inl ⟨a1, rfl, rfl, rfl⟩, hk'⟩
          have b1 := fun w => run_bound P j 0 0 .sliceAcap ⟨by omega, by omega⟩ w
          simp [Instr.sliceAt, Instr.slice, Instr.sliceBounds, run_underlying hd, run_tsz hz, b1]
        · have b1 := fun w => run_bound P j h cap .sliceAcap ⟨by omega, by omega⟩ w
          refine ⟨.slice A h.toNat cap, _, fun w' => ?_, .ref _ _ _ _ _ hlt rfl fun r' hr' hv' => .inr ⟨g, A, cap, cur, a1, rfl, by omega, a4, ?_, fun ho => a6 (by omega), ?_, ?_⟩, hk'⟩
          · by_cases hc0 : cap = 0
            · subst hc0
              simp [Instr.sliceAt, Instr.slice, Instr.sliceBounds, run_underlying hd, run_tsz hz, b1]
            · cases A with
              | none => simp [Instr.sliceAt, Instr.slice, Instr.sliceBounds, run_underlying hd, run_tsz hz, b1, hc0]
              | some ad => simp [Instr.sliceAt, Instr.slice, Instr.sliceBounds, run_underlying hd, run_tsz hz, b1, Addr.add]
          · have : r' = r := by rw [hr] at hr'; cases hr'; rfl
            subst this; exact a5
          · have : r' = r := by rw [hr] at hr'; cases hr'; rfl
            subst this; exact a7
          · have : r' = r := by rw [hr] at hr'; cases hr'; rfl
            subst this
            exact Nat.le_trans (Nat.add_le_add_left (Nat.mul_le_mul_right _ (by omega)) _) a8
    rename_i c n cells
    have hk0 := aSz_out hk
    clear hk
    obtain ⟨z, hz, _, hle, hk⟩ := hk0
    obtain ⟨A, cap, rfl, hnc, hm, hA⟩ := hx.sl_inv
    have fin : ∀ (l m : Nat), l + m ≤ n → (∀ w', (Instr.sliceBounds true n cap lov hiv none).run P w' = .ok (l, l + m, cap) w') → k (.sl c m ((cells.drop (l * z)).take (m * z))) →
        ∃ v u, (∀ w', (Instr.sliceAt t (.slice A n cap) lov hiv none).run P w' = .ok v w') ∧ VR D w φ s.rows s.ctr v u ∧ k u := by
      intro l m hlm hb hk
      refine ⟨_, _, fun w' => ?_, hx.cut hlm hle, hk⟩
      have e1 : l + m - l = m := by omega
      by_cases h0 : cap - l = 0
      · have : cap = l := by omega
        subst this
        simp [Instr.sliceAt, Instr.slice, run_underlying hd, hb, run_tsz hz]
      · have : ¬ cap = l := by omega
        simp [Instr.sliceAt, Instr.slice, run_underlying hd, hb, run_tsz hz, e1, h0, this]
    split at hk
    · rename_i j l
      cases lov with
      | none => simp at hlo
      | some lv =>
        simp only at hlo
        have := hlo.int_inv; subst this
        split at hk
        · rename_i j' h
          cases hiv with
          | none => simp at hhi
          | some hv =>
            simp only at hhi
            have := hhi.int_inv; subst this
            obtain ⟨⟨h0, h1, h2⟩, hk⟩ := hk
            refine fin l.toNat (h.toNat - l.toNat) (by omega) (fun w' => ?_) hk
            have b1 := fun w => run_bound P j' h cap .sliceAcap ⟨by omega, by omega⟩ w
            have b2 := fun w => run_bound P j l h.toNat .sliceB ⟨by omega, by omega⟩ w
            simp [Instr.sliceBounds, b1, b2]
            omega
        · cases hiv with
          | some _ => simp at hhi
          | none =>
            obtain ⟨⟨h0, h1⟩, hk⟩ := hk
            refine fin l.toNat (n - l.toNat) (by omega) (fun w' => ?_) hk
            have b2 := fun w => run_bound P j l n .sliceB ⟨by omega, by omega⟩ w
            simp [Instr.sliceBounds, b2]
            omega
        · exact hk.elim
    · cases lov with
      | some _ => simp at hlo
      | none =>
        split at hk
        · rename_i j' h
          cases hiv with
          | none => simp at hhi
          | some hv =>
            simp only at hhi
            have := hhi.int_inv; subst this
            obtain ⟨⟨h0, h1⟩, hk⟩ := hk
            refine fin 0 h.toNat (by omega) (fun w' => ?_) (by simpa using hk)
            have b1 := fun w => run_bound P j' h cap .sliceAcap ⟨by omega, by omega⟩ w
            simp [Instr.sliceBounds, b1]
        · exact hk.elim
    · exact hk.elim
  · exact hk.elim

/-- len: the fact that a length fits is handed on. -/
def aLen (P : Program) (t : TypeId) (s : St) (x : AV) (k : AV → Prop) : Prop :=
  match P.underlying t with
  | some (.slice _) =>
    match x with
    | .nil => k (.int .i64 0)
    | .sl _ n _ => n ≤ maxLen → k (.int .i64 n)
    | .ref τ ver _ n => aRow s τ ver fun _ => n ≤ maxLen → k (.int .i64 n)
    | _ => False
  | some .string =>
    match x with
    | .str b => k (.int .i64 b.size)
    | _ => False
  | _ => False

theorem aLen_ok {t : TypeId} {x : AV} {xv : Value} {k : AV → Prop} (hx : VR D w φ s.rows s.ctr xv x) (hk : aLen P t s x k) :
    ∃ v u, (∀ w', (Builtin.len_ #[t] 0 #[xv]).run P w' = .ok v w') ∧ VR D w φ s.rows s.ctr v u ∧ k u := by
  unfold aLen at hk
  split at hk
  · rename_i e hd
    split at hk
    · cases hx with
      | nil => exact ⟨_, _, fun w' => by simp [Builtin.len_, run_underlying hd, goInt], .int _ _, hk⟩
    · rename_i c n cells
      obtain ⟨A, cap, rfl, hnc, hm, hA⟩ := hx.sl_inv
      exact ⟨_, _, fun w' => by simp [Builtin.len_, run_underlying hd, goInt], .int _ _, hk (by omega)⟩
    · rename_i τ ver off n
      obtain ⟨r, hr, hver, hk⟩ := aRow_out hk
      cases hx with
      | ref _ _ _ _ _ hlt h1' h =>
        rcases h r hr hver with ⟨_, rfl, rfl, _⟩ | ⟨g, A, cap, cur, a1, rfl, a3, a4, a5, a6, a7, a8⟩
        · exact ⟨_, _, fun w' => by simp [Builtin.len_, run_underlying hd, goInt], .int _ _, hk (Nat.zero_le _)⟩
        · exact ⟨_, _, fun w' => by simp [Builtin.len_, run_underlying hd, goInt], .int _ _, hk (by omega)⟩
    · exact hk.elim
  · rename_i hd
    split at hk
    case h_2 => exact hk.elim
    have := hx.str_inv; subst this
    exact ⟨_, _, fun w' => by simp [Builtin.len_, run_underlying hd, goInt], .int _ _, hk⟩
  · exact hk.elim

def aExtract (x : AV) (i : Nat) (k : AV → Prop) : Prop :=
  match x with
  | .tup us => aGet us i k
  | _ => False

theorem aExtract_ok {x : AV} {xv : Value} {i : Nat} {k : AV → Prop} (hx : VR D w φ s.rows s.ctr xv x) (hk : aExtract x i k) :
    ∃ v u, (∀ w', (Instr.extract xv i).run P w' = .ok v w') ∧ VR D w φ s.rows s.ctr v u ∧ k u := by
  unfold aExtract at hk
  split at hk
  · rename_i us
    obtain ⟨u, hu, hk⟩ := hk
    cases hx with
    | tup vs _ hl hv =>
      have hlt : i < vs.size := by rw [hl]; exact (List.getElem?_eq_some_iff.1 hu).1
      have hc : vs[i]? = some vs[i] := Array.getElem?_eq_getElem hlt
      exact ⟨_, u, fun w' => by simp [Instr.extract, hc], hv _ _ _ hc hu, hk⟩
  · exact hk.elim

def aNil (s : St) (x : AV) (k : AV → Prop) : Prop :=
  match x with
  | .rd _ => k x
  | .ptr τ ver _ => aRow s τ ver fun _ => k x
  | _ => False

def aIndex (P : Program) (t : TypeId) (x i : AV) (k : AV → Prop) : Prop :=
  match P.underlying t with
  | some .string =>
    match x, i with
    | .str b, .int _ i => ∃ h : 0 ≤ i ∧ i.toNat < b.size, k (.int .u8 (b[i.toNat]'h.2).toNat)
    | _, _ => False
  | _ => False

theorem aIndex_ok {t : TypeId} {x i : AV} {xv iv : Value} {k : AV → Prop} (hx : VR D w φ s.rows s.ctr xv x) (hi : VR D w φ s.rows s.ctr iv i) (hk : aIndex P t x i k) :
    ∃ v u, (∀ w', (Instr.index t xv iv).run P w' = .ok v w') ∧ VR D w φ s.rows s.ctr v u ∧ k u := by
  unfold aIndex at hk
  split at hk
  · rename_i hd
    split at hk
    case h_2 => exact hk.elim
    rename_i b j i
    obtain ⟨⟨h0, h1⟩, hk⟩ := hk
    have := hx.str_inv; subst this
    have := hi.int_inv; subst this
    have hb : b[i.toNat]? = some b[i.toNat] := by simp [h1]
    exact ⟨_, _, fun w' => by simp only [Instr.index, asIntOf, Sem.run_bind, Sem.run_pure, Result.andThen_ok, run_underlying hd, h0, if_true, hb], .int _ _, hk⟩
  · exact hk.elim

end
end Go.Am
