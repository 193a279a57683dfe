/-
  The checker: what it makes of expressions that are numbers, and quotients of such; its list of them.
  The checker's list of expressions.
-/
import Derived.Test.YtlgpbllkhbgppaaGreatDoorJn15
import Derived.Test.YtlgpbllkhbgppaaGreatDoorJn24
import Derived.Test.YtlgpbllkhbgppaaGreatDoorJn25
namespace Go.Proofs.YtlgpbllkhbgppaaGreatDoor
set_option linter.unusedVariables false
set_option linter.unusedSimpArgs false
open Go.RowKit

mutual
/-- All of it is of the type of numbers. -/
def tyE : Ex → Ex
  | .mk k a _ o n s kids => .mk k a 1 o n s (tyEs kids)
def tyEs : List Ex → List Ex
  | [] => []
  | e :: r => tyE e :: tyEs r
end
mutual
/-- A number, or a quotient. -/
def inE : Ex → Prop
  | .mk k _ _ o _ s kids => s.size ≤ 281474976710656 ∧ kids.length ≤ 1099511627776 ∧ ((k = 1 ∧ kids = []) ∨ (k = 5 ∧ o = 7)) ∧ inEs kids
def inEs : List Ex → Prop
  | [] => True
  | e :: r => inE e ∧ inEs r
end
theorem tyEs_len (l : List Ex) : (tyEs l).length = l.length := by
  induction l with
  | nil => rfl
  | cons e r ih => simp [tyEs, ih]
theorem tyEs_at (l : List Ex) (i : Nat) : (tyEs l)[i]? = (l[i]?).map tyE := by
  induction l generalizing i with
  | nil => rfl
  | cons e r ih => cases i with
    | zero => rfl
    | succ i => simpa [tyEs] using ih i
/-- An expression, as a value. -/
def ExV (w : World) (S : Nat → Prop) (v : Value) (e : Ex) : Prop := ∃ k a t o n s kids K c, e = .mk k a t o n s kids ∧ v = .agg #[.int .i64 k, .int .i64 a, .int .i64 t, .int .i64 o, .int .i64 n, .string s, .slice K kids.length (kids.length + c)] ∧ RdEs w S K 0 kids
/-- The expressions of a row, by its cells; what lies behind them is apart from the row. -/
def PrE (w : World) (base : Nat) (v : Value) (xs : List Value) (l : List Ex) : Prop := ∀ i e, l[i]? = some e → RdE w (fun b => base ≤ b ∧ b < w.heap.size ∧ some b ≠ v.ownBlock) (fun j => xs[i * 7 + j]?) e
theorem PrE.below {w w' : World} {base : Nat} {v : Value} {xs : List Value} {l : List Ex} (h : PrE w base v xs l) (hb : Below w.heap.size w w') : PrE w' base v xs l := fun i e he => by
  have h6 := RdE.keep (w' := w') (fun q hq => hb.cell hq.2.1) _ _ (h i e he)
  exact RdE.more (fun b hS => ⟨hS.1, Nat.lt_of_lt_of_le hS.2.1 hb.size, hS.2.2⟩) _ _ h6
/-- One more. -/
theorem PrE.snoc {w1 w2 : World} {base lo : Nat} {v v' : Value} {xs : List Value} {l : List Ex} {k a t o n : Int} {s : ByteArray} {kids : List Ex} {K : Option Addr} {c : Nat} (h : PrE w1 base v xs l) (hx : xs.length = l.length * 7) (hk : RdEs w1 (From lo w1) K 0 kids)
    (hlo : base ≤ lo) (hv : ∀ b, v.ownBlock = some b → b < lo) (hg : w1.grownBy w2 v.ownBlock) (hat : v'.ownBlock = v.ownBlock ∨ ∃ b, v'.ownBlock = some b ∧ w1.heap.size ≤ b) :
    PrE w2 base v' (xs ++ [.int .i64 k, .int .i64 a, .int .i64 t, .int .i64 o, .int .i64 n, .string s, .slice K kids.length (kids.length + c)]) (l ++ [.mk k a t o n s kids]) := fun i p hp => by
  have hcell : ∀ q : Addr, q.block < w1.heap.size → some q.block ≠ v.ownBlock → w2.cell? q = w1.cell? q := fun q h1 h2 => hg.cell_far q h1 h2
  have hne : ∀ b, b < w1.heap.size → some b ≠ v.ownBlock → some b ≠ v'.ownBlock := fun b h1 h2 => by
    rcases hat with e | ⟨b', e, hge⟩
    · rw [e]; exact h2
    · rw [e]; intro e2; injection e2 with e2; omega
  by_cases hi : i < l.length
  · rw [List.getElem?_append_left hi] at hp
    have h1 := RdE.keep (w' := w2) (fun q hq => hcell q hq.2.1 hq.2.2) _ _ (h i p hp)
    have h2 := RdE.more (S' := fun b => base ≤ b ∧ b < w2.heap.size ∧ some b ≠ v'.ownBlock) (fun b hS => ⟨hS.1, Nat.lt_of_lt_of_le hS.2.1 hg.size, hne b hS.2.1 hS.2.2⟩) _ _ h1
    exact h2.cells (fun j hj => by rw [List.getElem?_append_left (by omega)])
  · have hl : i < (l ++ [Ex.mk k a t o n s kids]).length := (List.getElem?_eq_some_iff.mp hp).1
    rw [List.length_append, List.length_singleton] at hl
    obtain rfl : i = l.length := by omega
    have hpe : p = .mk k a t o n s kids := by simpa using hp.symm
    subst hpe
    have hvb : ∀ b, lo ≤ b → some b ≠ v.ownBlock := fun b h1 h2 => by have := hv b h2.symm; omega
    have h1 := RdEs.keep (w' := w2) (fun q hq => hcell q hq.2 (hvb _ hq.1)) _ _ _ hk
    have h2 := RdEs.more (S' := fun b => base ≤ b ∧ b < w2.heap.size ∧ some b ≠ v'.ownBlock) (fun b hS => ⟨Nat.le_trans hlo hS.1, Nat.lt_of_lt_of_le hS.2 hg.size, hne b hS.2 (hvb b hS.1)⟩) _ _ _ h1
    have h3 : RdE w2 (fun b => base ≤ b ∧ b < w2.heap.size ∧ some b ≠ v'.ownBlock) (fun j => ([.int .i64 k, .int .i64 a, .int .i64 t, .int .i64 o, .int .i64 n, .string s, .slice K kids.length (kids.length + c)] : List Value)[j]?) (.mk k a t o n s kids) := by
      unfold RdE
      exact ⟨rfl, rfl, rfl, rfl, rfl, rfl, K, c, rfl, h2⟩
    exact h3.cells (fun j hj => by rw [List.getElem?_append_right (by omega), hx, Nat.add_sub_cancel_left])
/-- A row that is one's own, read. -/
theorem PrE.read {w : World} {base : Nat} {C : Nat} {V : Option Addr} {l : List Ex} {xs : List Value} (ho : w.ownsRow base 159 7 (.slice V l.length C) l.length xs) (h : PrE w base (.slice V l.length C) xs l) : RdEs w (From base w) V 0 l := by
  refine RdEs.of_all (fun k e he => ?_)
  have hk : k < l.length := (List.getElem?_eq_some_iff.mp he).1
  obtain ⟨g, c, hv, hg, hgl⟩ := ho.form (by omega)
  injection hv with h1 h2 h3
  subst h1
  refine ⟨g, 0, rfl, ⟨hg, hgl⟩, ?_⟩
  have h2 := RdE.more (S' := From base w) (fun b hS => ⟨hS.1, hS.2.1⟩) _ _ (h k e he)
  refine h2.cells (fun j hj => ?_)
  have e0 : 0 + (0 + k) * 7 + j = k * 7 + j := by omega
  rw [e0]
  exact ho.cellAt (k * 7 + j) (by omega)
/-- What the checker asks of types: numbers are the first that may be. -/
def May (w : World) (v : Value) : Prop := ∃ b o n c, v = .slice (some ⟨b, o, none⟩) n c ∧ 0 < n ∧ n ≤ 16 ∧ b < w.heap.size ∧ w.cell? ⟨b, o, none⟩ = some (.int .i64 1)
theorem May.up {w w' : World} {v : Value} (h : May w v) (hb : Below w.heap.size w w') : May w' v := by
  obtain ⟨b, o, n, c, h1, h2, h3, h4, h5⟩ := h
  exact ⟨b, o, n, c, h1, h2, h3, Nat.lt_of_lt_of_le h4 hb.size, (hb.cell (p := ⟨b, o, none⟩) h4).trans h5⟩
def ExT (e : Ex) : Prop := ∀ (g : Nat) (S : Nat → Prop) (v M : Value) (w : World), (∀ b, S b → b < w.heap.size) → ExV w S v e → May w M →
  Calls Tryz.prog 115 #[.pointer (some ⟨g, 0, none⟩), v, M] w fun r w' => ∃ v', r = .returned v' ∧ ExV w' (From w.heap.size w') v' (tyE e) ∧ Below w.heap.size w w'
set_option maxRecDepth 100000 in
set_option maxHeartbeats 4000000 in
theorem index_first (M : Value) (w : World) (h : May w M) : Calls Tryz.prog 145 #[M, .int .i64 1] w fun r w' => r = .returned (.int .i64 0) ∧ Below w.heap.size w w' := by
  obtain ⟨b, o, n, c, rfl, h1, h2, h3, h4⟩ := h
  have h5 : (0 : Int) < (n : Int) := by omega
  go_enter Tryz.func145, Tryz.ntmps145
  go_wp2
  refine wp_loop_rounds 1 ?_
  rw [rounds_succ]
  go_wp2
  go_ret
  all_goals (first | exact ⟨rfl, Below.refl _ _⟩ | omega)
set_option maxRecDepth 100000 in
set_option maxHeartbeats 4000000 in
theorem contains_first (M : Value) (w : World) (h : May w M) : Calls Tryz.prog 133 #[M, .int .i64 1] w fun r w' => r = .returned (.bool true) ∧ Below w.heap.size w w' := by
  have hI := fun w' (h : May w' M) => index_first M w' h
  go_enter Tryz.func133, Tryz.ntmps133
  go_wp2_with (go_at_call 145; refine (hI _ h).mono ?_; rintro e w1 ⟨rfl, hb⟩)
  go_ret
  exact ⟨rfl, hb⟩
end Go.Proofs.YtlgpbllkhbgppaaGreatDoor
namespace Go.Proofs.YtlgpbllkhbgppaaGreatDoor
set_option linter.unusedVariables false
set_option linter.unusedSimpArgs false
open Go.RowKit

theorem own_blw {w w' : World} {base : Nat} {T : TypeId} {z n : Nat} {v : Value} {xs : List Value} (h : w.ownsRow base T z v n xs) (hb : Below w.heap.size w w') : w'.ownsRow base T z v n xs :=
  h.kept (row := none) ⟨hb.os, hb.tape, hb.output, hb.size, fun k hk _ => hb.block k hk⟩ (by cases Value.ownBlock _ <;> simp)
set_option maxRecDepth 100000 in
set_option maxHeartbeats 8000000 in
theorem chk_exprs (l : List Ex) (HE : ∀ e ∈ l, ExT e) (g : Nat) (S : Nat → Prop) (A : Option Addr) (cap : Nat) (M : Value) (w : World) (hS : ∀ b, S b → b < w.heap.size) (hl : l.length ≤ 1099511627776) (h : RdEs w S A 0 l) (hM : May w M) :
    Calls Tryz.prog 93 #[.pointer (some ⟨g, 0, none⟩), .slice A l.length cap, M] w fun e w' => ∃ K c, e = .returned (.slice K l.length (l.length + c)) ∧ RdEs w' (From w.heap.size w') K 0 (tyEs l) ∧ Below w.heap.size w w' := by
  obtain ⟨n, hn⟩ : ∃ n, n = l.length := ⟨_, rfl⟩
  have Hn := Lib.hid hn
  rw [← hn] at hl ⊢
  obtain ⟨i0, hi, hz0, hz1, hz2⟩ := info_parts infoE7
  have Hi := Lib.hid hi
  have Hz0 := Lib.hid hz0
  have Hz1 := Lib.hid hz1
  have Hz2 := Lib.hid hz2
  have H := Lib.hid h
  have HM := Lib.hid hM
  have HHE := Lib.hid HE
  clear hn h hi hz0 hz1 hz2 hM HE
  go_enter Tryz.func93, Tryz.ntmps93
  go_wp2
  go_loopw [7, 12] (fun u7 u12 wr => ∃ (i : Nat) (v : Value) (xs : List Value), i ≤ n ∧ u12 = .int .i64 i ∧ u7 = v ∧ Hid (wr.ownsRow w.heap.size 159 7 v i xs) ∧ Hid (PrE wr w.heap.size v xs ((tyEs l).take i)) ∧ Hid (Below w.heap.size w wr)) (fun _ u _ => n - (intOf u).toNat)
  case atStart => exact ⟨0, _, [], Nat.zero_le _, rfl, rfl, Lib.hid (World.ownsRow_nil w w.heap.size 159 7), Lib.hid (fun i p hp => by simp at hp), Lib.hid (Below.refl _ _)⟩
  case round =>
    obtain ⟨i, v, xs, hin, rfl, rfl, hown, hex, hb⟩ := hrel
    obtain ⟨V, C, rfl⟩ := own_form hown.out
    by_cases hlt : i < n
    · have hil : i < l.length := by rw [← Hn.out]; exact hlt
      obtain ⟨e, he⟩ : ∃ e, l[i]? = some e := ⟨_, List.getElem?_eq_getElem hil⟩
      obtain ⟨r, o, rfl, hr0, hE⟩ := H.out.at_ he
      have hr := hS _ hr0
      have hXe := HHE.out e (List.mem_of_getElem? he)
      have hte : (tyEs l)[i]? = some (tyE e) := by rw [tyEs_at, he]; rfl
      obtain ⟨k, a, t, q, m, s, kids⟩ := e
      unfold RdE at hE
      obtain ⟨x0, x1, x2, x3, x4, x5, K, ck, x6, hK⟩ := hE
      rw [Nat.zero_add] at x0 x1 x2 x3 x4 x5 x6
      have up : ∀ j u, w.cell? ⟨r, j, none⟩ = some u → wr.cell? ⟨r, j, none⟩ = some u := fun j u e => (hb.out.cell (p := ⟨r, j, none⟩) hr).trans e
      replace x0 := up _ _ x0
      replace x1 := up _ _ x1
      replace x2 := up _ _ x2
      replace x3 := up _ _ x3
      replace x4 := up _ _ x4
      replace x5 := up _ _ x5
      replace x6 := up _ _ x6
      rw [Nat.add_zero] at x0
      have hKr := RdEs.keep (w' := wr) (fun p hp => hb.out.cell (hS _ hp)) _ _ _ hK
      have hX := fun w' (hw : Below wr.heap.size wr w') => hXe g S (.agg #[.int .i64 k, .int .i64 a, .int .i64 t, .int .i64 q, .int .i64 m, .string s, .slice K kids.length (kids.length + ck)]) M w' (fun b hb' => Nat.lt_of_lt_of_le (hS b hb') (Nat.le_trans hb.out.size hw.size)) ⟨k, a, t, q, m, s, kids, K, ck, rfl, rfl, RdEs.keep (w' := w') (fun p hp => hw.cell (Nat.lt_of_lt_of_le (hS _ hp) hb.out.size)) _ _ _ hKr⟩ ((HM.out.up hb.out).up hw)
      have HX := Lib.hid hX
      have Hte := Lib.hid hte
      have hrr : r < wr.heap.size := Nat.lt_of_lt_of_le hr hb.out.size
      clear up hX hXe hK hKr he hte hr0
      go_wp2_with (go_at_call 115; refine (HX.out _ ?_).mono ?_)
      · exact (Below.refl _ _).alloc (Nat.le_refl _) _
      rintro rr w1 ⟨v1, rfl, hv1, hb1⟩
      obtain ⟨pk, pa, pt, po, pn, ps, pkids, PK, c, hte2, rfl, hk⟩ := hv1
      have hb1w : Below wr.heap.size wr w1 := ((Below.refl wr.heap.size wr).alloc (Nat.le_refl _) _).trans (hb1.mono (by simp))
      have hk' := RdEs.more (S' := From wr.heap.size w1) (fun b hS => ⟨by have := hS.1; simp at this; omega, hS.2⟩) _ _ _ hk
      have Hb1 := Lib.hid hb1w
      have hmid := (Below.refl w1.heap.size w1).alloc (Nat.le_refl _) (.cells #[.int .i64 pk, .int .i64 pa, .int .i64 pt, .int .i64 po, .int .i64 pn, .string ps, .slice PK pkids.length (pkids.length + c)] 159)
      have HOW := Lib.hid (own_blw (own_blw hown.out hb1w) hmid)
      have HNW := Lib.hid (World.news_of_block (heap_alloc_new w1 (.cells #[.int .i64 pk, .int .i64 pa, .int .i64 pt, .int .i64 po, .int .i64 pn, .string ps, .slice PK pkids.length (pkids.length + c)] 159)))
      have HO := Lib.hid (seven_one pk pa pt po pn ps PK pkids.length (pkids.length + c))
      have hsz : w.heap.size ≤ (w1.alloc (.cells #[.int .i64 pk, .int .i64 pa, .int .i64 pt, .int .i64 po, .int .i64 pn, .string ps, .slice PK pkids.length (pkids.length + c)] 159)).heap.size := by have := hb.out.size; have := hb1w.size; simp; omega
      have Hk := Lib.hid (RdEs.more (S' := From wr.heap.size (w1.alloc (.cells #[.int .i64 pk, .int .i64 pa, .int .i64 pt, .int .i64 po, .int .i64 pn, .string ps, .slice PK pkids.length (pkids.length + c)] 159))) (fun b hS => ⟨hS.1, by have := hS.2; simp; omega⟩) _ _ _ (RdEs.keep (w' := w1.alloc (.cells #[.int .i64 pk, .int .i64 pa, .int .i64 pt, .int .i64 po, .int .i64 pn, .string ps, .slice PK pkids.length (pkids.length + c)] 159)) (fun q hq => hmid.cell hq.2) _ _ _ hk'))
      have Hpr := Lib.hid ((hex.out.below hb1w).below hmid)
      have Hte2 := Lib.hid hte2
      have Hmid := Lib.hid hmid
      clear hmid hk hk' hb1 hb1w hte2 x0 x1 x2 x3 x4 x5 x6
      go_wp2_with (at_builtin; refine wpList_append_lies _ rfl (.tmp 16) (.tmp 21) 130 rfl w.heap.size 159 i0 (.agg #[.int .i64 0, .int .i64 0, .int .i64 0, .int .i64 0, .int .i64 0, .string ⟨#[]⟩, .slice none 0 0]) 7 80 Tryz.underlying130 Hi.out Hz0.out Hz1.out Hz2.out rfl (by decide) (.slice V i C) i xs rfl HOW.out ⟨w1.heap.size, 0, none⟩ 1 1 [.int .i64 pk, .int .i64 pa, .int .i64 pt, .int .i64 po, .int .i64 pn, .string ps, .slice PK pkids.length (pkids.length + c)] rfl rfl HNW.out HO.out (by decide) (by unfold maxLen; omega) (by omega) hsz _ rfl ?_)
      intro gp cp2 w2 hown2 hgrow hat hlt2
      have hat2 : (Value.slice (some ⟨gp, 0, none⟩) (i + 1) cp2).ownBlock = (Value.slice V i C).ownBlock ∨ ∃ b, (Value.slice (some ⟨gp, 0, none⟩) (i + 1) cp2).ownBlock = some b ∧ (w1.alloc (.cells #[.int .i64 pk, .int .i64 pa, .int .i64 pt, .int .i64 po, .int .i64 pn, .string ps, .slice PK pkids.length (pkids.length + c)] 159)).heap.size ≤ b := by
        rcases hat with h1 | h1
        · exact Or.inl h1.symm
        · exact Or.inr ⟨gp, rfl, by rw [h1]; simp⟩
      have htk : (tyEs l).take (i + 1) = (tyEs l).take i ++ [.mk pk pa pt po pn ps pkids] := by
        have hlen : i < (tyEs l).length := by rw [tyEs_len]; exact hil
        rw [List.take_succ_eq_append_getElem hlen]
        congr 2
        have := Hte.out
        rw [List.getElem?_eq_getElem hlen, Hte2.out] at this
        exact Option.some.inj this
      have hex2 := Hpr.out.snoc (k := pk) (a := pa) (t := pt) (o := po) (n := pn) (s := ps) (c := c) (v' := .slice (some ⟨gp, 0, none⟩) (i + 1) cp2) (by rw [List.length_take, tyEs_len]; have := hown.out.1; omega) Hk.out hb.out.size (fun b hb' => (hown.out.lt b hb').2) hgrow hat2
      rw [← htk] at hex2
      have Hex2 := Lib.hid hex2
      have Hown2 := Lib.hid hown2
      have Hb2 := Lib.hid (((hb.out.trans (Hb1.out.mono hb.out.size)).trans (Hmid.out.mono (by have := hb.out.size; have := Hb1.out.size; omega))).grown hgrow hsz (fun k hk => (hown.out.lt k hk).1))
      clear htk hex2 hown2 hgrow hat hat2 hlt2
      go_wp2
      go_roundw
      case rel => exact ⟨i + 1, _, _, by omega, by go_num, rfl, Hown2, Hex2, Hb2⟩
      case measure => simp [intOf]; omega
    · obtain rfl : i = n := by omega
      have hd := Lib.hid hlt
      have hr := hown.out
      have hx := hex.out
      have hle : (tyEs l).length = i := by rw [tyEs_len]; exact Hn.out.symm
      rw [← hle, List.take_length] at hx
      rw [← hle] at hr
      obtain ⟨x, rfl⟩ : ∃ x, C = i + x := ⟨C - i, by have := (own_cap hown.out).1; omega⟩
      have hy := PrE.read (w := wr) (base := w.heap.size) hr hx
      clear hx hr
      go_wp2
      go_ret
      exact ⟨V, x, rfl, hy, hb.out⟩
end Go.Proofs.YtlgpbllkhbgppaaGreatDoor
