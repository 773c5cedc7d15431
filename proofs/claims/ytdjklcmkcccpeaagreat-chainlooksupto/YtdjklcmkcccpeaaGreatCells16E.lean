import Derived.Test.YtdjklcmkcccpeaaGreatCells15E
import Derived.Test.YtdjklcmkcccpeaaGreatCells10E
import Derived.Test.YtdjklcmkcccpeaaGreatCells7E
namespace Go.Proofs.YtdjklcmkcccpeaaGreat
open Go.ChangeShapes Go.WideShapes Go.ChangeAt Go.RowKit
set_option linter.unusedVariables false
theorem nodup_lenN : ∀ (n : Nat) (F : List Nat), F.Nodup → (∀ x ∈ F, x < n) → F.length ≤ n
  | 0, F, _, hr => by
    cases F with
    | nil => simp
    | cons a l => have := hr a (by simp); omega
  | n + 1, F, hd, hr => by
    have ih := nodup_lenN n (F.erase n) (hd.erase _) (fun x hx => by
      have h1 := (List.Nodup.mem_erase_iff hd).1 hx
      have h2 := hr x h1.2
      have h3 : x ≠ n := h1.1
      omega)
    have := List.length_erase (a := n) (l := F)
    split at this <;> omega
/-- An arena at rest: Q is its queue of free slots. -/
structure Arn (w : World) (L : Lay) (Q : List Nat) (S : AS) : Prop where
  h : Holds w L S
  g0 : S.g0 = 0
  rc : S.rc = 0
  lk : S.lk = 0
  fr : S.front < S.n
  cn : S.count = Q.length
  ri : ∀ i (hi : i < Q.length), S.ring ((S.front + i) % S.n) = (Q[i] : Int) + 1
  nd : Q.Nodup
  mem : ∀ k, k ∈ Q ↔ k < S.n ∧ S.use k = false
theorem Arn.len {w : World} {L : Lay} {Q : List Nat} {S : AS} (h : Arn w L Q S) : Q.length ≤ S.n := nodup_lenN S.n Q h.nd (fun x hx => ((h.mem x).1 hx).1)
theorem Arn.same {w w' : World} {L : Lay} {Q : List Nat} {S S' : AS} (h : Arn w L Q S) (h' : Holds w' L S') (e1 : S'.n = S.n) (e2 : S'.g0 = S.g0) (e3 : S'.rc = S.rc) (e4 : S'.lk = S.lk) (e5 : S'.front = S.front) (e6 : S'.count = S.count) (e7 : S'.ring = S.ring) (e8 : S'.use = S.use) : Arn w' L Q S' :=
  ⟨h', e2.trans h.g0, e3.trans h.rc, e4.trans h.lk, by rw [e5, e1]; exact h.fr, e6.trans h.cn, fun i hi => by rw [e7, e5, e1]; exact h.ri i hi, h.nd, fun k => by rw [e1, e8]; exact h.mem k⟩
theorem Arn.keeps {w w' : World} {L : Lay} {Q : List Nat} {S : AS} {P : Nat → Prop} (h : Arn w L Q S) (hk : Keeps P w w') (hP : ∀ g, L.has g → ¬ P g) : Arn w' L Q S := h.same (h.h.keeps hk hP) rfl rfl rfl rfl rfl rfl rfl rfl
theorem Holds.lt {w : World} {L : Lay} {S : AS} (h : Holds w L S) : ∀ g, L.has g → g < w.heap.size := by
  intro g hg
  rcases hg with rfl | rfl | rfl | rfl <;> first | exact h.lb | exact h.ls | exact h.lu | exact h.lq
theorem AS.settle {S : AS} (hr : S.rc = 0) (hl : S.lk = 0) : { S with rc := 0, lk := 0 } = S := by cases S; simp only at hr hl; subst hr; subst hl; rfl
theorem AS.settleG {S : AS} (hg : S.g0 = 0) (hr : S.rc = 0) (hl : S.lk = 0) : { S with g0 := 0, rc := 0, lk := 0 } = S := by cases S; simp only at hg hr hl; subst hg; subst hr; subst hl; rfl
def AS.alloc (S : AS) (k : Nat) (p : Ent) (val : Nat → Int) : AS := { S with acc := wrap64 (S.acc + 1), front := (S.front + 1) % S.n, count := S.count - 1 }.laid k p val
def AS.free (S : AS) (k : Nat) : AS := { S with acc := wrap64 (S.acc + 1), pay := upd S.pay k Ent.none, use := upd S.use k false, ring := upd S.ring ((S.front + S.count) % S.n) ((k : Int) + 1), count := S.count + 1 }
theorem mod_step (f i n : Nat) : ((f + 1) % n + i) % n = (f + (i + 1)) % n := by rw [Nat.mod_add_mod]; congr 1; omega
theorem mod_lt2 {f i n : Nat} (hf : f < n) (hi : i ≤ n) : (f + i) % n = if f + i < n then f + i else f + i - n := by
  split
  · exact Nat.mod_eq_of_lt (by assumption)
  · rw [Nat.mod_eq_sub_mod (by omega)]
    by_cases e : f + i - n < n
    · exact Nat.mod_eq_of_lt e
    · omega
theorem mod_ne {f i j n : Nat} (hf : f < n) (hi : i < j) (hj : j < n) : (f + i) % n ≠ (f + j) % n := by
  rw [mod_lt2 hf (by omega), mod_lt2 hf (by omega)]
  split <;> split <;> omega
theorem arn_alloc (L : Lay) (S : AS) (w : World) (Q : List Nat) (p : Ent) (sp : Option Addr) (m c k : Nat) (f : Nat → Int) (h : Arn w L (k :: Q) S) (hg : Given w L sp m f) (hm : m ≤ S.wd) : Calls Tryz.prog 40 #[.pointer (some ⟨L.b, 0, none⟩), .agg #[.string p.nm, .string p.dt, .int .i64 p.tl], .slice sp m c] w fun e w' => e = .returned (.tuple #[.int .i64 ((k : Int) + 1), .int .i64 0]) ∧ Arn w' L Q (S.alloc k p (valW m f)) ∧ Keeps L.has w w' := by
  have hkn := ((h.mem k).1 (by simp)).1
  have hlen := h.len
  have hk : S.ring S.front = (k : Int) + 1 := by
    have := h.ri 0 (by simp)
    rw [Nat.add_zero, Nat.mod_eq_of_lt h.fr] at this
    simpa using this
  have hc := h.cn
  simp only [List.length_cons] at hlen hc
  refine (alloc_ok L S w p sp m c k f h.h hg hm h.rc h.lk h.fr (by omega) (by omega) hk hkn).mono ?_
  rintro e w' ⟨rfl, h', k'⟩
  have he : ({ S with rc := 0, lk := 0, acc := wrap64 (S.acc + 1), front := (S.front + 1) % S.n, count := S.count - 1 } : AS) = { S with acc := wrap64 (S.acc + 1), front := (S.front + 1) % S.n, count := S.count - 1 } := congrArg (fun T : AS => ({ T with acc := wrap64 (S.acc + 1), front := (S.front + 1) % S.n, count := S.count - 1 } : AS)) (AS.settle h.rc h.lk)
  rw [he] at h'
  refine ⟨rfl, ⟨h', h.g0, h.rc, h.lk, Nat.mod_lt _ (by have := h.fr; omega), ?_, fun i hi => ?_, (List.nodup_cons.1 h.nd).2, fun j => ?_⟩, k'⟩
  · show S.count - 1 = Q.length
    omega
  · show S.ring (((S.front + 1) % S.n + i) % S.n) = _
    rw [mod_step, h.ri (i + 1) (by simp; omega)]
    simp
  · show j ∈ Q ↔ j < S.n ∧ upd S.use k true j = false
    have h1 := h.mem j
    have h2 := (List.nodup_cons.1 h.nd).1
    unfold upd
    by_cases e : j = k
    · subst e
      simp [h2]
    · rw [if_neg e, ← h1]
      simp [e]
theorem arn_full (L : Lay) (S : AS) (w : World) (p : Ent) (sp : Option Addr) (m c : Nat) (h : Arn w L [] S) (hm : m ≤ S.wd) : Calls Tryz.prog 40 #[.pointer (some ⟨L.b, 0, none⟩), .agg #[.string p.nm, .string p.dt, .int .i64 p.tl], .slice sp m c] w fun e w' => e = .returned (.tuple #[.int .i64 0, .int .i64 21]) ∧ Arn w' L [] { S with acc := wrap64 (S.acc + 1) } ∧ Keeps L.has w w' := by
  refine (alloc_full L S w p sp m c h.h hm h.rc h.lk h.cn).mono ?_
  rintro e w' ⟨rfl, h', k'⟩
  have he : ({ S with rc := 0, lk := 0, acc := wrap64 (S.acc + 1) } : AS) = { S with acc := wrap64 (S.acc + 1) } := congrArg (fun T : AS => ({ T with acc := wrap64 (S.acc + 1) } : AS)) (AS.settle h.rc h.lk)
  rw [he] at h'
  exact ⟨rfl, h.same h' rfl rfl rfl rfl rfl rfl rfl rfl, k'⟩
theorem arn_free (L : Lay) (S : AS) (w : World) (Q : List Nat) (k : Nat) (h : Arn w L Q S) (hk : k < S.n) (hu : S.use k = true) : Calls Tryz.prog 101 #[.pointer (some ⟨L.b, 0, none⟩), .int .i64 ((k : Int) + 1)] w fun e w' => e = .returned (.int .i64 0) ∧ Arn w' L (Q ++ [k]) (S.free k) ∧ Keeps L.has w w' := by
  have hlen := h.len
  have hc := h.cn
  have hnk : k ∉ Q := fun e => by have := ((h.mem k).1 e).2; rw [hu] at this; cases this
  have hnd : (Q ++ [k]).Nodup := by
    rw [List.nodup_append]
    refine ⟨h.nd, by simp, fun a ha b hb => ?_⟩
    simp at hb
    rintro rfl
    exact hnk (hb ▸ ha)
  have hlt : Q.length < S.n := by
    have := nodup_lenN S.n (Q ++ [k]) hnd (fun x hx => by
      rcases List.mem_append.1 hx with hx | hx
      · exact ((h.mem x).1 hx).1
      · simp at hx; omega)
    simp at this
    omega
  refine (free_ok L S w k h.h h.g0 h.rc h.lk hk hu h.fr (by omega)).mono ?_
  rintro e w' ⟨rfl, h', k'⟩
  have he : ({ S with g0 := 0, rc := 0, lk := 0, acc := wrap64 (S.acc + 1), pay := upd S.pay k Ent.none, use := upd S.use k false, ring := upd S.ring ((S.front + S.count) % S.n) ((k : Int) + 1), count := S.count + 1 } : AS) = S.free k := congrArg (fun T : AS => ({ T with acc := wrap64 (S.acc + 1), pay := upd S.pay k Ent.none, use := upd S.use k false, ring := upd S.ring ((S.front + S.count) % S.n) ((k : Int) + 1), count := S.count + 1 } : AS)) (AS.settleG h.g0 h.rc h.lk)
  rw [he] at h'
  refine ⟨rfl, ⟨h', h.g0, h.rc, h.lk, h.fr, ?_, fun i hi => ?_, hnd, fun j => ?_⟩, k'⟩
  · show S.count + 1 = _
    simp; omega
  · show upd S.ring ((S.front + S.count) % S.n) ((k : Int) + 1) ((S.front + i) % S.n) = _
    simp only [List.length_append, List.length_singleton] at hi
    unfold upd
    rw [hc]
    by_cases e : i = Q.length
    · subst e; simp
    · rw [if_neg (mod_ne h.fr (by omega) hlt), h.ri i (by omega), List.getElem_append_left (by omega)]
  · show j ∈ Q ++ [k] ↔ j < S.n ∧ upd S.use k false j = false
    unfold upd
    by_cases e : j = k
    · subst e
      simp [hk]
    · rw [if_neg e, ← h.mem j]
      simp [e]
theorem arn_free_no (L : Lay) (S : AS) (w : World) (Q : List Nat) (x : Int) (h : Arn w L Q S) (hx : ¬ S.live x) : Calls Tryz.prog 101 #[.pointer (some ⟨L.b, 0, none⟩), .int .i64 x] w fun e w' => e = .returned (.int .i64 22) ∧ Arn w' L Q { S with miss := wrap64 (S.miss + 1) } ∧ Keeps L.has w w' := by
  refine (free_no L S w x h.h h.g0 h.rc hx).mono ?_
  rintro e w' ⟨rfl, h', k'⟩
  exact ⟨rfl, h.same (S' := { S with miss := wrap64 (S.miss + 1) }) (by
    have he : ({ S with g0 := 0, rc := 0, miss := wrap64 (S.miss + 1) } : AS) = { S with miss := wrap64 (S.miss + 1) } := by
      have := congrArg (fun T : AS => ({ T with miss := wrap64 (S.miss + 1), lk := S.lk } : AS)) (AS.settleG h.g0 h.rc h.lk)
      exact this
    rw [← he]
    exact h') rfl rfl rfl rfl rfl rfl rfl rfl, k'⟩
theorem arn_new (n wd : Nat) (w : World) (h1 : 1 ≤ n) (h2 : n ≤ 4096) (h3 : 1 ≤ wd) (h4 : wd ≤ 16) : Calls Tryz.prog 38 #[.int .i64 (n : Int), .int .i64 (wd : Int)] w fun e w' => ∃ L, e = .returned (.tuple #[.pointer (some ⟨L.b, 0, none⟩), .int .i64 0]) ∧ (∀ g, L.has g → w.heap.size ≤ g) ∧ Arn w' L (List.range n) (.fresh n wd) ∧ Below w.heap.size w w' := by
  refine (new_ok n wd w h1 h2 h3 h4).mono ?_
  rintro e w' ⟨s, u, rfl, hsu, h, hb⟩
  refine ⟨⟨w.heap.size + 2, s, u, w.heap.size + 3⟩, rfl, fun g hg => ?_, ⟨h, rfl, rfl, rfl, h1, by simp [AS.fresh], fun i hi => ?_, List.nodup_range, fun k => by simp [AS.fresh]⟩, hb⟩
  · rcases hg with h | h | h | h <;> simp only [] at h <;> omega
  · have hi' : i < n := by simpa using hi
    simp [AS.fresh, Nat.mod_eq_of_lt hi']
end Go.Proofs.YtdjklcmkcccpeaaGreat
