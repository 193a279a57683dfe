/-
  Two programs of the law's making, side by side: what the law asks of them.
-/
import Derived.Test.YtpnpjlggikdinaaTrS8
import Derived.Test.YtpnpjlggikdinaaTrT4
import Derived.Test.YtpnpjlggikdinaaTrB3
namespace Go.Proofs.Ytpnpjlggikdinaa
open Go.RowKit

/-- What is owned stays so in a world that has the same blocks from the base on, as many as there were. -/
theorem own_same {w w' : World} {B : Nat} {T : TypeId} {z n : Nat} {v : Value} {xs : List Value} (h : w.ownsRow B T z v n xs) (hk : ∀ g, v.ownBlock = some g → w'.heap[g]? = w.heap[g]?) : w'.ownsRow B T z v n xs := by
  refine ⟨h.1, ?_⟩
  rcases h.2 with h1 | ⟨g, c, cur, rfl, hg, hh, hr⟩
  · exact Or.inl h1
  · exact Or.inr ⟨g, c, cur, rfl, hg, (hk g rfl).trans hh, hr⟩

/-- A row lies in no block of another type. -/
theorem own_type {w : World} {B : Nat} {T T' : TypeId} {z n : Nat} {v : Value} {xs : List Value} {b : Nat} {cs : Array Value} {fr : Nat × Nat} (h : w.ownsRow B T z v n xs) (hb : w.heap[b]? = some (.cells cs T' fr)) (hT : T ≠ T') : v.ownBlock ≠ some b := fun e => by
  rcases h.2 with ⟨rfl, _⟩ | ⟨g, c, cur, rfl, _, hg, _⟩
  · simp [Value.ownBlock] at e
  · simp only [Value.ownBlock, Option.some.injEq] at e
    subst e
    rw [hg] at hb
    simp only [Option.some.injEq, Obj.cells.injEq] at hb
    exact hT hb.2.1
/-- The two programs: a below N1, b from there on. -/
structure Two (l : List EE) (W : World) (N1 : Nat) (ga gb : Nat) (at_ : Int) (P : Option Addr) (cp : Nat) (B : Option Addr) (cb : Nat) (P' : Option Addr) (cp' : Nat) (B' : Option Addr) (cb' : Nat) (bxs bxs' : List Value) : Prop where
  pa : Prg W ga ⟨#[102]⟩ 0 P (paramsT l).length cp ((l.length : Int) % 5) B (bodyT l).length cb 0
  pb : Prg W gb ⟨#[102]⟩ at_ P' (paramsT l).length cp' ((l.length : Int) % 5) B' (bodyT l).length cb' at_
  la : ga < N1
  lb : N1 ≤ gb
  oP : W.ownsRow 0 35 2 (.slice P (paramsT l).length cp) (paramsT l).length (paCells (paramsT l))
  oP' : W.ownsRow N1 35 2 (.slice P' (paramsT l).length cp') (paramsT l).length (paCells (paramsT l))
  oB : W.ownsRow 0 38 8 (.slice B (bodyT l).length cb) (bodyT l).length bxs
  oB' : W.ownsRow N1 38 8 (.slice B' (bodyT l).length cb') (bodyT l).length bxs'
  uP : ∀ g, (Value.slice P (paramsT l).length cp).ownBlock = some g → g < N1
  uB : ∀ g, (Value.slice B (bodyT l).length cb).ownBlock = some g → g < N1
  rB : ∀ k e, (bodyT l)[k]? = some e → RdS W (fun b => b < N1 ∧ b ≠ ga) (fun j => bxs[k * 8 + j]?) e
  rB' : ∀ k e, (bodyT l)[k]? = some e → RdS W (fun b => N1 ≤ b ∧ b < W.heap.size ∧ b ≠ gb) (fun j => bxs'[k * 8 + j]?) e ∧ OwnK 40 W N1 (bxs'[k * 8 + 5]?)
  hN : N1 ≤ W.heap.size
theorem Two.keep {l : List EE} {W W' : World} {N1 ga gb : Nat} {at_ : Int} {P B P' B' : Option Addr} {cp cb cp' cb' : Nat} {bxs bxs' : List Value} (h : Two l W N1 ga gb at_ P cp B cb P' cp' B' cb' bxs bxs') (hb : Below W.heap.size W W') : Two l W' N1 ga gb at_ P cp B cb P' cp' B' cb' bxs bxs' where
  pa := (hb.block ga h.pa.lt).trans h.pa
  pb := (hb.block gb h.pb.lt).trans h.pb
  la := h.la
  lb := h.lb
  oP := own_keep h.oP hb
  oP' := own_keep h.oP' hb
  oB := own_keep h.oB hb
  oB' := own_keep h.oB' hb
  uP := h.uP
  uB := h.uB
  rB := fun k e he => RdS.keep (fun p hp => hb.cell (Nat.lt_of_lt_of_le hp.1 h.hN)) _ _ (h.rB k e he)
  rB' := fun k e he => ⟨RdS.more (fun b hS => ⟨hS.1, Nat.lt_of_lt_of_le hS.2.1 hb.size, hS.2.2⟩) _ _ (RdS.keep (w' := W') (fun p hp => hb.cell hp.2.1) _ _ (h.rB' k e he).1), (h.rB' k e he).2.keep hb⟩
  hN := Nat.le_trans h.hN hb.size
theorem rows_read {W : World} {base : Nat} {S : Nat → Prop} {B : Option Addr} {cb : Nat} {bxs : List Value} {ss : List St} (ho : W.ownsRow base 38 8 (.slice B ss.length cb) ss.length bxs) (hS : ∀ b, S b → b < W.heap.size) (hr : ∀ k e, ss[k]? = some e → RdS W S (fun j => bxs[k * 8 + j]?) e) : RdSs W (fun b => b < W.heap.size) B 0 ss := by
  refine RdSs.of_all (fun k e he => ?_)
  have hk : k < ss.length := (List.getElem?_eq_some_iff.mp he).1
  obtain ⟨g, c, hv, hb, hl⟩ := ho.form (by omega)
  injection hv with h1 h2 h3
  subst h1
  refine ⟨g, 0, rfl, hl, ?_⟩
  refine (RdS.more hS _ _ (hr k e he)).cells (fun j hj => ?_)
  have e0 : 0 + (0 + k) * 8 + j = k * 8 + j := by omega
  rw [e0]
  exact ho.cellAt (k * 8 + j) (by have := ho.1; omega)
theorem Two.same {l : List EE} {W : World} {N1 ga gb : Nat} {at_ : Int} {P B P' B' : Option Addr} {cp cb cp' cb' : Nat} {bxs bxs' : List Value} (h : Two l W N1 ga gb at_ P cp B cb P' cp' B' cb' bxs bxs') (k k' : Nat) :
    Calls Try.prog 6 #[.agg #[.slice (some ⟨ga, 0, none⟩) 2 k], .agg #[.slice (some ⟨gb, 0, none⟩) 2 k']] W fun e w' => e = .returned (.bool true) ∧ Below W.heap.size W w' := by
  have hps : (paramsT l).length ≤ 9223372036854775807 := by rw [paramsT_len]; omega
  have hfb := stmtsT_fine 2 (l.take (min l.length 8))
  refine h.pa.same_true k k' h.pb (paramsSay hps h.oP h.oP') ?_
  refine stmtsSay_eq (fun _ hb => hb) (fun _ hb => hb) (by have := hfb.1; unfold bodyT; omega) hfb.2 ?_ ?_
  · exact rows_read h.oB (fun b hS => Nat.lt_of_lt_of_le hS.1 h.hN) h.rB
  · exact rows_read h.oB' (fun b hS => hS.2.1) (fun k e he => (h.rB' k e he).1)
theorem two_mk {l : List EE} {w w1 w2 : World} {at_ : Int} {ga gb : Nat} {P B P' B' : Option Addr} {cp cb cp' cb' : Nat} {bxs bxs' : List Value}
    (hga : w1.heap[ga]? = some (.cells #[.string ⟨#[102]⟩, .int .i64 0, .slice P (paramsT l).length cp, .int .i64 ((l.length : Int) % 5), .slice B (bodyT l).length cb, .int .i64 0, .string ⟨#[109, 97, 105, 110]⟩, .int .i64 0, .slice none 0 0, .int .i64 1, .slice none 0 0, .int .i64 0] 31 (0, 0)))
    (hPo : w1.ownsRow w.heap.size 35 2 (.slice P (paramsT l).length cp) (paramsT l).length (paCells (paramsT l))) (hBo : w1.ownsRow w.heap.size 38 8 (.slice B (bodyT l).length cb) (bodyT l).length bxs)
    (hBr : ∀ k e, (bodyT l)[k]? = some e → RdS w1 (fun b => w.heap.size ≤ b ∧ b < w1.heap.size ∧ b ≠ ga) (fun j => bxs[k * 8 + j]?) e ∧ OwnK 40 w1 w.heap.size (bxs[k * 8 + 5]?))
    (hgb : w2.heap[gb]? = some (.cells #[.string ⟨#[102]⟩, .int .i64 0, .slice P' (paramsT l).length cp', .int .i64 ((l.length : Int) % 5), .slice B' (bodyT l).length cb', .int .i64 0, .string ⟨#[109, 97, 105, 110]⟩, .int .i64 0, .slice none 0 0, .int .i64 1, .slice none 0 0, .int .i64 0] 31 (0, 0))) (hgl : w1.heap.size ≤ gb)
    (hPo' : w2.ownsRow w1.heap.size 35 2 (.slice P' (paramsT l).length cp') (paramsT l).length (paCells (paramsT l))) (hBo' : w2.ownsRow w1.heap.size 38 8 (.slice B' (bodyT l).length cb') (bodyT l).length bxs')
    (hBr' : ∀ k e, (bodyT l)[k]? = some e → RdS w2 (fun b => w1.heap.size ≤ b ∧ b < w2.heap.size ∧ b ≠ gb) (fun j => bxs'[k * 8 + j]?) e ∧ OwnK 40 w2 w1.heap.size (bxs'[k * 8 + 5]?))
    (hb2 : Below w1.heap.size w1 w2) : Two l ((w2.setCell ⟨gb, 1, none⟩ (.int .i64 at_)).setCell ⟨gb, 5, none⟩ (.int .i64 at_)) w1.heap.size ga gb at_ P cp B cb P' cp' B' cb' bxs bxs' := by
  have hgal : ga < w1.heap.size := by
    rcases Nat.lt_or_ge ga w1.heap.size with h' | h'
    · exact h'
    · rw [Array.getElem?_eq_none h'] at hga; cases hga
  have hoth : ∀ k, k ≠ gb → ((w2.setCell ⟨gb, 1, none⟩ (.int .i64 at_)).setCell ⟨gb, 5, none⟩ (.int .i64 at_)).heap[k]? = w2.heap[k]? := fun k hk => (Below.heap_setCell _ _ _ _ hk).trans (Below.heap_setCell _ _ _ _ hk)
  have hgT : ∀ {B0 : Nat} {T : TypeId} {z n : Nat} {v : Value} {xs : List Value}, w2.ownsRow B0 T z v n xs → T ≠ 31 → ((w2.setCell ⟨gb, 1, none⟩ (.int .i64 at_)).setCell ⟨gb, 5, none⟩ (.int .i64 at_)).ownsRow B0 T z v n xs := fun {B0 T z n v xs} ho hT => own_same ho (fun g hg => hoth g (fun e => by
    subst e
    exact own_type ho hgb hT hg))
  have hbW : Below w1.heap.size w1 ((w2.setCell ⟨gb, 1, none⟩ (.int .i64 at_)).setCell ⟨gb, 5, none⟩ (.int .i64 at_)) := (hb2.setCell hgl _).setCell hgl _
  refine ⟨(hbW.block ga hgal).trans hga, ?_, hgal, hgl, own_mono (own_keep hPo hbW) (Nat.zero_le _), hgT hPo' (by decide), own_mono (own_keep hBo hbW) (Nat.zero_le _), hgT hBo' (by decide), fun g hg => (hPo.lt g hg).2, fun g hg => (hBo.lt g hg).2, fun k e he => ?_, fun k e he => ⟨?_, ?_⟩, hbW.size⟩
  · have h1 := heap_set (heap_set hgb 1 (.int .i64 at_)) 5 (.int .i64 at_)
    exact h1
  · exact RdS.more (fun b hS => hS) _ _ (RdS.keep (fun p hp => hbW.cell hp.1) _ _ (RdS.more (S' := fun b => b < w1.heap.size ∧ b ≠ ga) (fun b hS => ⟨hS.2.1, hS.2.2⟩) _ _ (hBr k e he).1))
  · refine RdS.more (fun b hS => ⟨hS.1, by simpa using hS.2.1, hS.2.2⟩) _ _ (RdS.keep (w' := (w2.setCell ⟨gb, 1, none⟩ (.int .i64 at_)).setCell ⟨gb, 5, none⟩ (.int .i64 at_)) (fun p hp => World.cell?_of_block (hoth p.block hp.2.2)) _ _ (hBr' k e he).1)
  · obtain ⟨kv, m, kxs, hc, ho⟩ := (hBr' k e he).2
    exact ⟨kv, m, kxs, hc, hgT ho (by decide)⟩
/-- Eight cells of a block stored one by one. -/
def put8 (w : World) (b o : Nat) (v0 v1 v2 v3 v4 v5 v6 v7 : Value) : World := (((((((w.setCell ⟨b, o, none⟩ v0).setCell ⟨b, o + 1, none⟩ v1).setCell ⟨b, o + 2, none⟩ v2).setCell ⟨b, o + 3, none⟩ v3).setCell ⟨b, o + 4, none⟩ v4).setCell ⟨b, o + 5, none⟩ v5).setCell ⟨b, o + 6, none⟩ v6).setCell ⟨b, o + 7, none⟩ v7
theorem put8_other {w : World} {b o k : Nat} (hk : k ≠ b) (v0 v1 v2 v3 v4 v5 v6 v7 : Value) : (put8 w b o v0 v1 v2 v3 v4 v5 v6 v7).heap[k]? = w.heap[k]? := by
  have H : ∀ (w : World) (j : Nat) (u : Value), (w.setCell ⟨b, j, none⟩ u).heap[k]? = w.heap[k]? := fun w j u => Below.heap_setCell w ⟨b, j, none⟩ u k hk
  unfold put8
  simp only [H]
theorem put8_below {w : World} {B b o : Nat} (hB : B ≤ b) (v0 v1 v2 v3 v4 v5 v6 v7 : Value) : Below B w (put8 w b o v0 v1 v2 v3 v4 v5 v6 v7) := by
  unfold put8
  exact ((((((((Below.refl B w).setCell hB _).setCell hB _).setCell hB _).setCell hB _).setCell hB _).setCell hB _).setCell hB _).setCell hB _
theorem Prg.keep {w w' : World} {g : Nat} {s : ByteArray} {a : Int} {P : Option Addr} {m c : Nat} {r : Int} {B : Option Addr} {mb cb : Nat} {v : Int} (h : Prg w g s a P m c r B mb cb v) (hb : Below w.heap.size w w') : Prg w' g s a P m c r B mb cb v := (hb.block g h.lt).trans h
end Go.Proofs.Ytpnpjlggikdinaa
