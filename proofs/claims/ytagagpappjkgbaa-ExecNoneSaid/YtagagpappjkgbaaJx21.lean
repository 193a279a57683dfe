/-
  The runner at its start: functions laid out one behind the other.
-/
import Derived.Test.YtagagpappjkgbaaJx20
namespace Go.Proofs.Ytagagpappjkgbaa
set_option linter.unusedVariables false
set_option linter.unusedSimpArgs false
open Go.RowKit Go.Shelf Go.Sort

theorem GFam.two {w w1 : World} {base E : Nat} {F : Nat → GRw} (h : GFam w base E F) (hb : Below w.heap.size w w1) (hbase : base ≤ w.heap.size) {k l : Nat} (hkl : k ≠ l) (hk : (F k).v.ownBlock = none) (hl : (F l).v.ownBlock = none) (rk rl : GRw)
    (hok : w1.ownsRow w.heap.size rk.T rk.z rk.v rk.n rk.xs) (hol : w1.ownsRow w.heap.size rl.T rl.z rl.v rl.n rl.xs) (hne : rk.v.ownBlock ≠ rl.v.ownBlock) : GFam w1 base E (upG (upG F k rk) l rl) := by
  have h1 := h.grown k (by rw [hk]; exact grown_none hb) rk (gr_mono hok hbase) (fun g e => .inr (hok.lt g e).1)
  refine ⟨h1.el, fun j => ?_, fun j => ?_, fun i j hij => ?_⟩
  · by_cases hj : j = l
    · subst hj
      rw [upG_at]
      intro e
      have := (hol.lt E e).1
      have := h.el
      omega
    · rw [upG_off _ _ _ _ hj]; exact h1.av j
  · by_cases hj : j = l
    · subst hj; rw [upG_at]; exact gr_mono hol hbase
    · rw [upG_off _ _ _ _ hj]; exact h1.own j
  · have far : ∀ j, j ≠ l → rl.v.ownBlock = none ∨ rl.v.ownBlock ≠ (upG F k rk j).v.ownBlock := fun j hj => by
      by_cases hjk : j = k
      · subst hjk; rw [upG_at]; exact .inr (fun e => hne e.symm)
      · rw [upG_off _ _ _ _ hjk]
        cases hr : rl.v.ownBlock with
        | none => exact .inl rfl
        | some g =>
          refine .inr (fun e => ?_)
          have h2 := (hol.lt g hr).1
          have h3 := ((h.own j).lt g e.symm).2
          omega
    by_cases hi : i = l
    · subst hi
      rw [upG_at, upG_off _ _ _ _ (fun e => hij e.symm)]
      exact far j (fun e => hij e.symm)
    · rw [upG_off _ _ _ _ hi]
      by_cases hj : j = l
      · subst hj
        rw [upG_at]
        rcases far i hi with e | e
        · cases hr : (upG F k rk i).v.ownBlock with
          | none => exact .inl rfl
          | some g => rw [e]; exact .inr (by simp)
        · exact .inr (fun e2 => e e2.symm)
      · rw [upG_off _ _ _ _ hj]; exact h1.ne i j hij
theorem Sq.two {T : TypeId} {w w1 : World} {base E : Nat} {F : Nat → GRw} {cs : List Value} (h : Sq T w base E F cs) (hb : Below w.heap.size w w1) {k l : Nat} (hkl : k ≠ l) (hk : (F k).v.ownBlock = none) (hl : (F l).v.ownBlock = none) (rk rl : GRw)
    (hok : w1.ownsRow w.heap.size rk.T rk.z rk.v rk.n rk.xs) (hol : w1.ownsRow w.heap.size rl.T rl.z rl.v rl.n rl.xs) (hne : rk.v.ownBlock ≠ rl.v.ownBlock) : Sq T w1 base E (upG (upG F k rk) l rl) cs :=
  ⟨h.fam.two hb h.hb hkl hk hl rk rl hok hol hne, (hb.block E h.fam.el).trans h.box, h.bE, Nat.le_trans h.hb hb.size⟩
theorem fRow_agree {M M' : XM} : ∀ (l : List (SF × FV)) (k : Nat), (∀ j, j < k + l.length → M'.cb j = M.cb j ∧ M'.pb j = M.pb j) → fRow M' k l = fRow M k l
  | [], k, h => rfl
  | (f, v) :: l, k, h => by
    have h0 := h k (by simp)
    simp only [fRow, h0.1, h0.2, fRow_agree l (k + 1) (fun j hj => h j (by simp; omega))]
theorem fRow_snoc (M : XM) (f : SF) (v : FV) : ∀ (l : List (SF × FV)) (k : Nat), fRow M k (l ++ [(f, v)]) = fRow M k l ++ [.string v.s, v.p, .int .i64 f.ret, v.i, v.b, .slice (some ⟨M.cb (k + l.length), 0, none⟩) f.blocks.length f.blocks.length, .slice (some ⟨M.pb (k + l.length), 0, none⟩) f.ins.length f.ins.length]
  | [], k => by simp [fRow]
  | (g, u) :: l, k => by
    simp only [List.cons_append, fRow, fRow_snoc M f v l (k + 1), List.length_cons]
    rw [show k + 1 + l.length = k + (l.length + 1) by omega]
/-- The runner with so many functions. -/
def rst (inn : List Int) (fuel : Int) (fs : List SF) : XR := ⟨inn, fuel, [], none, ⟨0, 0, 0, 0, 0⟩, [], [], [], [], fs.map zeroP, []⟩
def M0 (inA : Option Addr) (inC : Nat) : XM := ⟨inA, inC, fun _ => none, fun _ => 0, none, 0, fun _ => 0, fun _ => 0, fun _ => 0, fun _ => none, fun _ => 0, []⟩
def F0 (r : XR) (M : XM) : Nat → GRw := fun k => if k < 5 then rowX r M k else if k = 5 then ⟨106, 7, .slice none 0 0, 0, []⟩ else noRow
theorem XOk.start {n0 E : Nat} {w : World} {inn : List Int} {fuel : Int} {inA : Option Addr} {inC : Nat} (hE : w.heap[E]? = some (.cells (xCells (rst inn fuel []) 0 (M0 inA inC)).toArray 102 (0, 0))) (hn : n0 ≤ E) (hi : GNs n0 w (.slice inA inn.length inC) inn) (hc : inn.length ≤ inC ∧ inC ≤ 9223372036854775807) (hf : 0 ≤ fuel ∧ fuel ≤ 1152921504606846976) :
    XOk n0 E E [] [] (rst inn fuel []) (M0 inA inC) (F0 (rst inn fuel []) (M0 inA inC)) w ∧ ∀ j, (F0 (rst inn fuel []) (M0 inA inC) (6 + 4 * j)).v.ownBlock = none ∧ (F0 (rst inn fuel []) (M0 inA inC) (7 + 4 * j)).v.ownBlock = none := by
  have hnone : ∀ k, (F0 (rst inn fuel []) (M0 inA inC) k).v.ownBlock = none ∧ ∀ base, w.ownsRow base (F0 (rst inn fuel []) (M0 inA inC) k).T (F0 (rst inn fuel []) (M0 inA inC) k).z (F0 (rst inn fuel []) (M0 inA inC) k).v (F0 (rst inn fuel []) (M0 inA inC) k).n (F0 (rst inn fuel []) (M0 inA inC) k).xs := fun k => by
    unfold F0
    by_cases h5 : k < 5
    · rw [if_pos h5]
      rcases k with _ | _ | _ | _ | _ | k
      · exact ⟨rfl, fun _ => World.ownsRow_nil _ _ _ _⟩
      · exact ⟨rfl, fun _ => World.ownsRow_nil _ _ _ _⟩
      · exact ⟨rfl, fun _ => World.ownsRow_nil _ _ _ _⟩
      · exact ⟨rfl, fun _ => World.ownsRow_nil _ _ _ _⟩
      · exact ⟨rfl, fun _ => World.ownsRow_nil _ _ _ _⟩
      · omega
    · rw [if_neg h5]
      by_cases h6 : k = 5
      · rw [if_pos h6]; exact ⟨rfl, fun _ => World.ownsRow_nil _ _ _ _⟩
      · rw [if_neg h6]; exact ⟨rfl, fun _ => World.ownsRow_nil _ _ _ _⟩
  have hlt := gr_in hE
  have six : ∀ j, 5 < j → F0 (rst inn fuel []) (M0 inA inC) j = noRow := fun j hj => by unfold F0; rw [if_neg (by omega), if_neg (by omega)]
  refine ⟨⟨⟨⟨hlt, fun k => by rw [(hnone k).1]; simp, fun k => (hnone k).2 _, fun k l _ => .inl (hnone k).1⟩, hE, Nat.le_refl _, Nat.le_of_lt hlt⟩, fun k hk => (by unfold F0; rw [if_pos hk]), (by show 0 ≤ 1048576; omega), rfl, fun i L h => (by cases h), fun i ps h => (by cases h), fun t T h => (by cases h), fun t _ => ⟨six _ (by omega), six _ (by omega)⟩, rfl, (by show 0 ≤ 1048576; omega), rfl, rfl, fun i f ps h => (by cases h), fun i f L h => (by cases h), fun i f v h => (by cases h), fun f h => (by cases h), hi, hc, hn, hf⟩, fun j => ⟨(hnone _).1, (hnone _).1⟩⟩
section
variable {n0 base E : Nat} {dn : List SF} {cd : List (List (Int × Int))} {inn : List Int} {fuel : Int} {M : XM} {F : Nat → GRw} {w w1 wz w5 : World}
def addM (M : XM) (n g c cb pb : Nat) (v : FV) : XM := { M with fA := some ⟨g, 0, none⟩, fC := c, cb := fun j => if j = n then cb else M.cb j, pb := fun j => if j = n then pb else M.pb j, fv := M.fv ++ [v] }
theorem XOk.addF (h : XOk n0 base E dn cd (rst inn fuel dn) M F w) (hfn : ∀ j, dn.length ≤ j → (F (6 + 4 * j)).v.ownBlock = none ∧ (F (7 + 4 * j)).v.ownBlock = none)
    (f : SF) (v : FV) (L : List (Int × Int)) (cb pb g c : Nat) (hdn : dn.length < 1048576) (hL : L.length = f.blocks.length) (hls : ∀ k ∈ f.blocks, k.list.length ≤ 1048576)
    (his : SIs n0 w v.i f.ins) (hbs : SBs n0 w v.b f.blocks) (hil : f.ins.length ≤ 1048576) (hbl : f.blocks.length ≤ 1048576)
    (hb1 : Below w.heap.size w w1) (hc : w1.heap[cb]? = some (.cells (L.flatMap wCell).toArray 131 (0, 0))) (hp : w1.heap[pb]? = some (.cells ((List.replicate f.ins.length (⟨⟨0, none⟩, 0⟩ : XPl)).flatMap (pCell fun _ => 0)).toArray 176 (0, 0)))
    (hcb : w.heap.size ≤ cb) (hpb : w.heap.size ≤ pb) (hne : cb ≠ pb) (hz : Below w1.heap.size w1 wz) (hg : wz.grownBy w5 (F 5).v.ownBlock)
    (hown : w5.ownsRow base 106 7 (.slice (some ⟨g, 0, none⟩) (dn.length + 1) c) (dn.length + 1) (fRow M 0 (dn.zip M.fv) ++ [.string v.s, v.p, .int .i64 f.ret, v.i, v.b, .slice (some ⟨cb, 0, none⟩) f.blocks.length f.blocks.length, .slice (some ⟨pb, 0, none⟩) f.ins.length f.ins.length]))
    (hat : (F 5).v.ownBlock = some g ∨ wz.heap.size ≤ g) :
    (∃ F', XOk n0 base E (dn ++ [f]) (cd ++ [L]) (rst inn fuel (dn ++ [f])) (addM M dn.length g c cb pb v) F' (w5.setCell ⟨E, 10, none⟩ (.slice (some ⟨g, 0, none⟩) (dn.length + 1) c)) ∧ ∀ j, (dn ++ [f]).length ≤ j → (F' (6 + 4 * j)).v.ownBlock = none ∧ (F' (7 + 4 * j)).v.ownBlock = none) ∧
      Below base w (w5.setCell ⟨E, 10, none⟩ (.slice (some ⟨g, 0, none⟩) (dn.length + 1) c)) ∧ (∀ j v, (xCells (rst inn fuel dn) dn.length M)[j]? = some v → w5.cell? ⟨E, j, none⟩ = some v) ∧ (∀ j, w5.frozen? ⟨E, j, none⟩ = false) := by
  have hfl : (L.flatMap wCell).length = f.blocks.length * 2 := by rw [flat_len wCell 2 (fun _ => rfl), hL]
  have hzl : (zeroP f).length = f.ins.length := by unfold zeroP; rw [List.length_replicate]
  have oc : w1.ownsRow w.heap.size 131 2 (.slice (some ⟨cb, 0, none⟩) f.blocks.length f.blocks.length) f.blocks.length (L.flatMap wCell) := own_lit w1 w _ _ 2 cb hc hfl hbl _ hcb
  have hpl : ((List.replicate f.ins.length (⟨⟨0, none⟩, 0⟩ : XPl)).flatMap (pCell fun _ => 0)).length = f.ins.length * 3 := by rw [flat_len (pCell fun _ => 0) 3 (fun _ => rfl), List.length_replicate]
  have op : w1.ownsRow w.heap.size 176 3 (.slice (some ⟨pb, 0, none⟩) f.ins.length f.ins.length) f.ins.length ((zeroP f).flatMap (pCell M.tb)) := by
    rw [zeroP_cells]
    exact own_lit w1 w _ _ 3 pb hp hpl hil _ hpb
  have n1 := hfn dn.length (Nat.le_refl _)
  have s2 := h.sq.two hb1 (k := 6 + 4 * dn.length) (l := 7 + 4 * dn.length) (by omega) n1.1 n1.2 ⟨131, 2, .slice (some ⟨cb, 0, none⟩) f.blocks.length f.blocks.length, f.blocks.length, L.flatMap wCell⟩ ⟨176, 3, .slice (some ⟨pb, 0, none⟩) f.ins.length f.ins.length, f.ins.length, (zeroP f).flatMap (pCell M.tb)⟩ oc op (by show some cb ≠ some pb; simpa using hne)
  have s3 := s2.keep hz
  have e5 : (upG (upG F (6 + 4 * dn.length) ⟨131, 2, .slice (some ⟨cb, 0, none⟩) f.blocks.length f.blocks.length, f.blocks.length, L.flatMap wCell⟩) (7 + 4 * dn.length) ⟨176, 3, .slice (some ⟨pb, 0, none⟩) f.ins.length f.ins.length, f.ins.length, (zeroP f).flatMap (pCell M.tb)⟩) 5 = F 5 := by rw [upG_off _ _ _ _ (by omega), upG_off _ _ _ _ (by omega)]
  have s4 := s3.grown 5 (by rw [e5]; exact hg) ⟨106, 7, .slice (some ⟨g, 0, none⟩) (dn.length + 1) c, dn.length + 1, fRow M 0 (dn.zip M.fv) ++ [.string v.s, v.p, .int .i64 f.ret, v.i, v.b, .slice (some ⟨cb, 0, none⟩) f.blocks.length f.blocks.length, .slice (some ⟨pb, 0, none⟩) f.ins.length f.ins.length]⟩ hown (fun g' e => by
    rw [e5]
    have e' : g = g' := by simpa [Value.ownBlock] using e
    subst e'
    exact hat)
  have s5 := s4.field 10 (.slice (some ⟨g, 0, none⟩) (dn.length + 1) c)
  have b4 := s3.b_grown 5 (by rw [e5]; exact hg)
  have b5 := s4.b_field 10 (.slice (some ⟨g, 0, none⟩) (dn.length + 1) c)
  have hb : Below base w (w5.setCell ⟨E, 10, none⟩ (.slice (some ⟨g, 0, none⟩) (dn.length + 1) c)) := (((hb1.mono h.sq.hb).trans (hz.mono s2.hb)).trans b4).trans b5
  have hn0 := hb.mono h.n0b
  have hcells : (xCells (rst inn fuel dn) dn.length M).set 10 (.slice (some ⟨g, 0, none⟩) (dn.length + 1) c) = xCells (rst inn fuel (dn ++ [f])) (dn ++ [f]).length (addM M dn.length g c cb pb v) := by
    unfold xCells
    rw [List.length_append]
    rfl
  rw [hcells] at s5
  have hln : (dn ++ [f]).length = dn.length + 1 := by simp
  refine ⟨⟨_, ⟨s5, fun k hk => ?_, (by show 0 ≤ 1048576; omega), ?_, fun i L' hL' => ?_, fun i ps hps => ?_, fun t T hT => (by cases hT), fun t _ => ?_, ?_, (by rw [hln]; omega), ?_, ?_, fun i f' ps hf' hps => ?_, fun i f' L' hf' hL' => ?_, fun i f' v' hf' hv' => ?_, fun f' hf' => ?_, h.inn.keep hn0, h.ic, h.n0b, h.lf⟩, fun j hj => ?_⟩, hb, fun j v hj => s4.cell j v hj, fun j => s4.fro j⟩
  · rw [upG_off _ _ _ _ (by omega), upG_off _ _ _ _ (by omega), upG_off _ _ _ _ (by omega), h.fr k hk]
    rcases k with _ | _ | _ | _ | _ | k <;> first | rfl | omega
  · rw [upG_at, hln]
    show (⟨_, _, _, _, _⟩ : GRw) = ⟨_, _, _, _, _⟩
    congr 1
    rw [show (addM M dn.length g c cb pb v).fv = M.fv ++ [v] from rfl, List.zip_append h.lv.symm]
    rw [show ([f].zip [v]) = [(f, v)] from rfl, fRow_snoc]
    have hzip : (dn.zip M.fv).length = dn.length := by rw [List.length_zip, h.lv]; omega
    rw [hzip, fRow_agree (M := M) (M' := addM M dn.length g c cb pb v) (dn.zip M.fv) 0 (fun j hj => by
      rw [hzip] at hj
      simp only [addM]
      exact ⟨if_neg (by omega), if_neg (by omega)⟩)]
    simp only [addM, Nat.zero_add, if_true]
  · by_cases e : i = cd.length
    · subst e
      rw [List.getElem?_append_right (Nat.le_refl _), Nat.sub_self] at hL'
      injection hL' with hL'
      subst hL'
      rw [upG_off _ _ _ _ (by omega), h.cn, upG_off _ _ _ _ (by omega), upG_at]
      show _ = comR _ _ _
      unfold comR addM
      simp only [if_true, hL]
    · have hi : i < cd.length := by
        have := (List.getElem?_eq_some_iff.mp hL').1
        simp at this
        omega
      rw [List.getElem?_append_left hi] at hL'
      have hcn := h.cn
      rw [upG_off _ _ _ _ (by omega), upG_off _ _ _ _ (by omega), upG_off _ _ _ _ (by omega), h.fc i L' hL']
      unfold comR addM
      simp only [if_neg (show ¬ i = dn.length by omega)]
  · have hps' : ((dn ++ [f]).map zeroP)[i]? = some ps := hps
    rw [List.map_append] at hps'
    have hml : (dn.map zeroP).length = dn.length := List.length_map ..
    by_cases e : i = dn.length
    · subst e
      rw [List.getElem?_append_right (by rw [hml]; exact Nat.le_refl _), hml, Nat.sub_self] at hps'
      injection hps' with hps'
      have hps2 : zeroP f = ps := hps'
      subst hps2
      rw [upG_off _ _ _ _ (by omega), upG_at]
      show _ = plaR _ _ _
      unfold plaR addM
      simp only [if_true, hzl]
    · have hi : i < dn.length := by
        have := (List.getElem?_eq_some_iff.mp hps').1
        simp at this
        omega
      rw [List.getElem?_append_left (by rw [hml]; exact hi)] at hps'
      rw [upG_off _ _ _ _ (by omega), upG_off _ _ _ _ (by omega), upG_off _ _ _ _ (by omega), h.fp i ps hps']
      unfold plaR addM
      simp only [if_neg e]
  · have h1 := h.fn t (Nat.zero_le _)
    rw [upG_off _ _ _ _ (by omega), upG_off _ _ _ _ (by omega), upG_off _ _ _ _ (by omega), upG_off _ _ _ _ (by omega), upG_off _ _ _ _ (by omega), upG_off _ _ _ _ (by omega)]
    exact h1
  · show (M.fv ++ [v]).length = _
    rw [List.length_append, List.length_append, h.lv]; rfl
  · show ((dn ++ [f]).map zeroP).length = _
    rw [List.length_map]
  · rw [List.length_append, List.length_append, h.cn]; rfl
  · have hps' : ((dn ++ [f]).map zeroP)[i]? = some ps := hps
    rw [List.getElem?_map, hf'] at hps'
    injection hps' with hps'
    rw [← hps']
    unfold zeroP
    rw [List.length_replicate]
  · by_cases e : i < dn.length
    · rw [List.getElem?_append_left e] at hf'
      rw [List.getElem?_append_left (by rw [h.cn]; exact e)] at hL'
      exact h.lc i f' L' hf' hL'
    · have hi : i = dn.length := by
        have := (List.getElem?_eq_some_iff.mp hf').1
        simp at this
        omega
      subst hi
      rw [List.getElem?_append_right (Nat.le_refl _), Nat.sub_self] at hf'
      rw [← h.cn, List.getElem?_append_right (Nat.le_refl _), Nat.sub_self] at hL'
      injection hf' with hf'
      injection hL' with hL'
      rw [← hf', ← hL', hL]
  · have hv2 : (M.fv ++ [v])[i]? = some v' := hv'
    by_cases e : i < dn.length
    · rw [List.getElem?_append_left e] at hf'
      rw [List.getElem?_append_left (by rw [h.lv]; exact e)] at hv2
      have := h.sr i f' v' hf' hv2
      exact ⟨this.1.keep hn0, this.2.1.keep hn0, this.2.2⟩
    · have hi : i = dn.length := by
        have := (List.getElem?_eq_some_iff.mp hf').1
        simp at this
        omega
      subst hi
      rw [List.getElem?_append_right (Nat.le_refl _), Nat.sub_self] at hf'
      rw [← h.lv, List.getElem?_append_right (Nat.le_refl _), Nat.sub_self] at hv2
      injection hf' with hf'
      injection hv2 with hv2
      subst hf' hv2
      exact ⟨his.keep hn0, hbs.keep hn0, hil, hbl⟩
  · rcases List.mem_append.1 hf' with h1 | h1
    · exact h.ls f' h1
    · rw [List.mem_singleton] at h1
      subst h1
      exact hls
  · rw [hln] at hj
    rw [upG_off _ _ _ _ (by omega), upG_off _ _ _ _ (by omega), upG_off _ _ _ _ (by omega), upG_off _ _ _ _ (by omega), upG_off _ _ _ _ (by omega), upG_off _ _ _ _ (by omega)]
    exact hfn j (by omega)
end
end Go.Proofs.Ytagagpappjkgbaa
