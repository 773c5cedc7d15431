import Derived.Test.YtlidkdnfibfnfaaGreatDoorLxQ
namespace Go.Proofs.YtlidkdnfibfnfaaGreatDoor
open Go.ChangeShapes Go.WideShapes Go.ChangeAt Go.RowKit
set_option linter.unusedVariables false
set_option maxRecDepth 100000
theorem hexT_err {s : ByteArray} {i : Nat} {e : Int} (h : hexT s i = .error e) : e ≠ 0 := by
  unfold hexT at h
  repeat' split at h
  all_goals (cases h <;> decide)
theorem wordP_err {s : ByteArray} {i : Nat} {e : Int} (h : wordP s i = .error e) : e ≠ 0 := by
  unfold wordP at h
  repeat' split at h
  all_goals (cases h <;> decide)
theorem intP_err {s : ByteArray} {i : Nat} {e : Int} (h : intP s i = .error e) : e ≠ 0 := by
  unfold intP at h
  repeat' split at h
  all_goals (cases h <;> decide)
theorem signP_err {s : ByteArray} {i : Nat} {e : Int} (h : signP s i = .error e) : e ≠ 0 := by
  unfold signP at h
  simp only at h
  repeat' split at h
  all_goals (cases h <;> decide)
theorem tokP_err {s : ByteArray} {i : Nat} {e : Int} (h : tokP s i = .error e) : e ≠ 0 := by
  by_cases h1 : (bA s i = 120 ∨ bA s i = 88) ∧ bA s (i + 1) = 39
  · rw [tokP_hex h1] at h; exact hexT_err h
  · by_cases h2 : isLt (bA s i)
    · rw [tokP_word h1 h2] at h; exact wordP_err h
    · by_cases h3 : isDg (bA s i)
      · rw [tokP_num h1 h2 h3] at h; exact intP_err h
      · by_cases h4 : bA s i = 34
        · rw [(tq34 h4).eq] at h
          repeat' split at h
          all_goals (cases h <;> decide)
        · by_cases h5 : bA s i = 39
          · rw [(tq39 h5).eq] at h
            repeat' split at h
            all_goals (cases h <;> decide)
          · rw [tokP_sign h1 h2 h3 h4 h5] at h; exact signP_err h
theorem lexP_gapE {s : ByteArray} {n i p : Nat} {l : List TK} (h : gapP s i = .error p) : lexP s (n + 1) i l = .error (151, p) := by rw [lexP, h]
theorem lexP_end {s : ByteArray} {n i j : Nat} {l : List TK} (h : gapP s i = .ok j) (h1 : s.size ≤ j) : lexP s (n + 1) i l = .ok (l ++ [⟨0, ⟨#[]⟩, 0, s.size⟩]) := by rw [lexP, h]; exact if_pos h1
theorem lexP_tokE {s : ByteArray} {n i j : Nat} {e : Int} {l : List TK} (h : gapP s i = .ok j) (h1 : j < s.size) (h2 : tokP s j = .error e) : lexP s (n + 1) i l = .error (e, j) := by
  rw [lexP, h]
  simp only [if_neg (show ¬ s.size ≤ j from by omega), h2]
theorem lexP_tok {s : ByteArray} {n i j k : Nat} {t : TK} {l : List TK} (h : gapP s i = .ok j) (h1 : j < s.size) (h2 : tokP s j = .ok (t, k)) : lexP s (n + 1) i l = lexP s n k (l ++ [t]) := by
  rw [lexP, h]
  simp only [if_neg (show ¬ s.size ≤ j from by omega), h2]
/-- What a script's tokens are. -/
def lexA (s : ByteArray) : Except (Int × Nat) (List TK) := if 65536 < s.size then .error (4, 0) else lexP s (s.size + 1) 0 []
theorem infoTok : (Tryz.prog.info? 30).map (fun i => (i.zero, i.size, i.bytes)) = some (some (.agg tkZ), 4, 40) := by kernel_rfl
def cellT (t : TK) : List Value := [.int .i64 t.kind, .string t.text, .int .i64 t.num, .int .i64 t.at_]
def cellsT (ts : List TK) : List Value := ts.flatMap cellT
/-- The slice value v holds just the tokens ts, in a row of the call's own. -/
def ownT (w : World) (B : Nat) (v : Value) (ts : List TK) : Prop := w.ownsRow B 30 4 v ts.length (cellsT ts)
theorem ownT_nil (w : World) (B : Nat) : ownT w B (.slice none 0 0) [] := World.ownsRow_nil _ _ _ _
theorem app_tok {wr : World} {ops : Array Oper} {rest : List Oper} {o : Oper} {a : Act} {Q : Exit → Act → World → Prop} (hgd : o.guard = none) (s x : Operand)
    (ho : o.op = .call { callee := .builtin .append, args := #[s, x], argTypes := #[22, 22] })
    (B : Nat) (v : Value) (vs : List TK) (c : TK) (hown : ownT wr B v vs) (hs : a.eval s = v) (g : Nat) (hg : g = wr.heap.size) (hx : a.eval x = .slice (some ⟨g, 0, none⟩) 1 1)
    (hlen : (vs.length + 1) * 40 ≤ 140737488355328) (hB : B ≤ wr.heap.size)
    (h : ∀ v' w', ownT w' B v' (vs ++ [c]) → Below B wr w' → wpList Tryz.prog ops Q rest (a.put o.dst v') w') :
    wpList Tryz.prog ops Q (o :: rest) a (wr.alloc (.cells #[.int .i64 c.kind, .string c.text, .int .i64 c.num, .int .i64 c.at_] 30)) := by
  subst hg
  obtain ⟨i0, hi, hz0, hz1, hz2⟩ := info_parts infoTok
  refine wpList_append_own _ hgd s x 22 ho B 30 i0 (.agg tkZ) 4 40 Tryz.underlying22 hi hz0 hz1 hz2 rfl (by decide) v vs.length _ hs (World.ownsRow.alloc hown _)
    ⟨wr.heap.size, 0, none⟩ 1 1 (cellT c) hx rfl ?_ ?_ (by unfold maxLen; omega) (by omega) (by simp; omega) ?_
  · intro j u hj
    match j, hj with
    | 0, hj => simp [cellT] at hj; subst hj; simp [Addr.add]
    | 1, hj => simp [cellT] at hj; subst hj; simp [Addr.add]
    | 2, hj => simp [cellT] at hj; subst hj; simp [Addr.add]
    | 3, hj => simp [cellT] at hj; subst hj; simp [Addr.add]
  · intro u hu; simp [cellT] at hu; rcases hu with rfl | rfl | rfl | rfl <;> rfl
  · intro v' w' hown' hgrow _
    refine h v' w' ?_ ?_
    · have : (vs ++ [c]).length = vs.length + 1 := by simp
      unfold ownT; rw [this, show cellsT (vs ++ [c]) = cellsT vs ++ cellT c from by simp [cellsT]]; exact hown'
    · exact ((Below.refl _ _).alloc hB _).grown hgrow (by simp; omega) (fun k hk => (World.ownsRow.lt hown k hk).1)
theorem ownT.later {w w' : World} {B : Nat} {v : Value} {ts : List TK} (h : ownT w B v ts) (hb : Below w.heap.size w w') : ownT w' B v ts := World.ownsRow.kept (row := none) h ⟨hb.os, hb.tape, hb.output, hb.size, fun k hk _ => hb.block k hk⟩ (by cases hv : v.ownBlock <;> simp)
/-- What Lex answers. -/
def LexR (B : Nat) (r : Except (Int × Nat) (List TK)) (e : Ending) (w' : World) : Prop := match r with
  | .ok ts => ∃ v, e = .returned (.tuple #[v, .int .i64 0, .int .i64 0]) ∧ ownT w' B v ts
  | .error (er, p) => e = .returned (.tuple #[.slice none 0 0, .int .i64 er, .int .i64 (p : Int)])
theorem results_ttt {P : Program} {fn : Func} {p q r : Tmp} (h : fn.results = #[.tmp p, .tmp q, .tmp r]) (tmps : Array Value) (w : World) : (results fn tmps).run P w = .ok (.tuple #[tmps.getD p undef, tmps.getD q undef, tmps.getD r undef]) w := by
  simp [results, h]
set_option maxHeartbeats 12800000 in
theorem refLex (s : ByteArray) (w : World) (hz : s.size ≤ 140737488355328) : Calls Tryz.prog 5 #[.string s] w fun e w' => LexR w.heap.size (lexA s) e w' ∧ Below w.heap.size w w' := by
  by_cases hbig : 65536 < s.size
  · have hb' : (65536 : Int) < (s.size : Int) := by omega
    have HL : Hid (lexA s = .error (4, 0)) := if_pos hbig
    go_enter Tryz.func5, Tryz.ntmps5
    go_wp2
    exact bodyPost_ret (results_ttt rfl _ _) rfl ⟨by rw [HL.out]; rfl, Below.refl _ _⟩
  · have hb' : ¬ (65536 : Int) < (s.size : Int) := by omega
    have hs : s.size ≤ 65536 := by omega
    have HL : Hid (lexA s = lexP s (s.size + 1) 0 []) := if_neg hbig
    go_enter Tryz.func5, Tryz.ntmps5
    go_wp2_with fail
    go_loopw [5, 6, 7, 8, 9, 10, 11] (fun l x _ _ _ _ _ wr => ∃ (n i : Nat) (ts : List TK), i ≤ s.size ∧ s.size < n + i ∧ ts.length ≤ i ∧ x = .int .i64 (i : Int) ∧ ownT wr w.heap.size l ts ∧ lexA s = lexP s n i ts ∧ Below w.heap.size w wr) (fun _ x _ _ _ _ _ _ => s.size + 1 - (intOf x).toNat)
    case atStart => exact ⟨s.size + 1, 0, [], by omega, by omega, Nat.le_refl _, rfl, ownT_nil _ _, HL.out, Below.refl _ _⟩
    case round =>
      obtain ⟨n, i, ts, hi, hn, hts, rfl, hown, hl, hbel⟩ := hrel
      obtain ⟨n, rfl⟩ : ∃ m, n = m + 1 := ⟨n - 1, by omega⟩
      have HO : Hid (ownT wr w.heap.size _ ts) := hown
      have HN : Hid (lexA s = lexP s (n + 1) i ts) := hl
      have HB : Hid (Below w.heap.size w wr) := hbel
      have hBr : w.heap.size ≤ wr.heap.size := by have := hbel.size; omega
      clear hown hl hbel HL
      go_wp2_with fail
      refine (refGap s i _ hs hi).mono ?_
      rintro e w1 ⟨rfl, rfl⟩
      rcases hg : gapP s i with p | j
      · have HE : Hid (lexA s = .error (151, p)) := HN.out.trans (lexP_gapE hg)
        clear hg
        dsimp only [gapV]
        go_wp2
        exact bodyPost_ret (results_ttt rfl _ _) rfl ⟨by rw [HE.out]; rfl, HB.out⟩
      · have hadv := gapP_adv s i j hi hg
        have hj0 : ¬ (j : Int) < 0 := by omega
        have HG : Hid (gapP s i = .ok j) := hg
        clear hg
        dsimp only [gapV]
        by_cases hjl : j < s.size
        · have hjj : ¬ (s.size : Int) ≤ (j : Int) := by omega
          go_wp2_with fail
          refine (refToken s j _ hs hjl).mono ?_
          rintro e w3 ⟨rfl, hb3⟩
          have HO3 : Hid (ownT w3 w.heap.size _ ts) := HO.out.later hb3
          have HB3 : Hid (Below w.heap.size w w3) := HB.out.trans (hb3.mono hBr)
          have hBr3 : w.heap.size ≤ w3.heap.size := by have := hb3.size; omega
          clear hb3
          rcases hR : tokP s j with er | ⟨t, k⟩
          · have hne : ¬ er = 0 := tokP_err hR
            have hne2 : (er != 0) = true := by simp [hne]
            have HE : Hid (lexA s = .error (er, j)) := HN.out.trans (lexP_tokE HG.out hjl hR)
            have HBZ : Hid _ := HB3.out.trans ((belTk w3 tkZ).mono hBr3)
            clear hR
            dsimp only [tokV]
            go_wp2
            exact bodyPost_ret (results_ttt rfl _ _) rfl ⟨by rw [HE.out]; rfl, HBZ.out⟩
          · have hadk := tokP_adv hjl hR
            have HE : Hid (lexA s = lexP s n k (ts ++ [t])) := HN.out.trans (lexP_tok HG.out hjl hR)
            have HOA : Hid (ownT (w3.alloc (.cells #[.int .i64 t.kind, .string t.text, .int .i64 t.num, .int .i64 t.at_] 30)) w.heap.size _ ts) := World.ownsRow.alloc HO3.out _
            have HBZ : Hid _ := HB3.out.trans ((belTk w3 #[.int .i64 t.kind, .string t.text, .int .i64 t.num, .int .i64 t.at_]).mono hBr3)
            have hszA : (w3.alloc (.cells #[.int .i64 t.kind, .string t.text, .int .i64 t.num, .int .i64 t.at_] 30)).heap.size = w3.heap.size + 1 := by show (w3.heap.push _).size = _; rw [Array.size_push]
            clear hR
            dsimp only [tokV, tkC]
            go_wp2_with (at_builtin; refine app_tok (by rfl) _ _ (by rfl) w.heap.size _ ts t HOA.out (by rfl) (w3.heap.size + 1) hszA.symm (by rfl) (by omega) (by omega) ?_; intro v' w4 hown4 hbel4; have HO4 : Hid _ := hown4; have HB4 : Hid _ := hbel4; clear hown4 hbel4)
            go_roundw
            case rel => exact ⟨n, k, ts ++ [t], by omega, by omega, by simp; omega, by first | rfl | go_num, HO4.out, HE.out, HBZ.out.trans HB4.out⟩
            case measure => simp [intOf]; omega
        · have hjj : (s.size : Int) ≤ (j : Int) := by omega
          have HE : Hid (lexA s = .ok (ts ++ [⟨0, ⟨#[]⟩, 0, s.size⟩])) := HN.out.trans (lexP_end HG.out (by omega))
          go_wp2_with (at_builtin; refine app_tok (by rfl) _ _ (by rfl) w.heap.size _ ts ⟨0, ⟨#[]⟩, 0, s.size⟩ HO.out (by rfl) _ rfl (by rfl) (by omega) hBr ?_; intro v' w4 hown4 hbel4; have HO4 : Hid _ := hown4; have HB4 : Hid _ := hbel4; clear hown4 hbel4)
          exact bodyPost_ret (results_ttt rfl _ _) rfl ⟨by rw [HE.out]; exact ⟨_, rfl, HO4.out⟩, HB.out.trans HB4.out⟩
end Go.Proofs.YtlidkdnfibfnfaaGreatDoor
